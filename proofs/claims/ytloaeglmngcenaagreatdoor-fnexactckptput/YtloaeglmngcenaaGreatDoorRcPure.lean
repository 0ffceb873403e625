/-
  Plain mathematics of chapter 4 (records): which records are valid, their encoding, their decoding, and why both ways of decoding agree: an encoding that is accepted is the encoding of its number. No condition.
-/
import Derived.Test.YtloaeglmngcenaaGreatDoorBtPure
import Derived.Test.YtloaeglmngcenaaGreatDoorBtMem
namespace Go.Proofs.YtloaeglmngcenaaGreatDoor.Bt

/-! an accepted number was encoded in the one way -/
theorem zig_unzig (x : Nat) : zig (unzig x) = x := by
  unfold zig unzig
  split
  · rw [if_pos (by omega)]; omega
  · rw [if_neg (by omega)]; omega
theorem unzig_zig (n : Int) : unzig (zig n) = n := by
  unfold zig unzig
  split
  · rw [if_pos (by omega)]; omega
  · rw [if_neg (by omega)]; omega
theorem drop_at (s : ByteArray) (k : Nat) (h : k < s.size) : s.data.toList.drop k = s[k] :: s.data.toList.drop (k + 1) := by
  rw [List.drop_eq_getElem_cons (by simpa using h)]; rfl
theorem ofNat_toNat (c : UInt8) : UInt8.ofNat c.toNat = c := by simp
theorem ofNat_high (c : UInt8) (h : ¬ c.toNat < 128) : UInt8.ofNat (c.toNat % 128 + 128) = c := by
  have := c.toNat_lt
  rw [show c.toNat % 128 + 128 = c.toNat by omega]; simp
theorem shift_split (u c x k : Nat) : u + c * 2 ^ (7 * k) + x * 2 ^ (7 * (k + 1)) = u + (c + 128 * x) * 2 ^ (7 * k) := by
  rw [show 7 * (k + 1) = 7 * k + 7 by omega, Nat.pow_add]
  generalize 2 ^ (7 * k) = y
  rw [Nat.add_mul, show x * (y * 2 ^ 7) = 128 * x * y by rw [show (2 : Nat) ^ 7 = 128 by decide, Nat.mul_comm y 128, ← Nat.mul_assoc, Nat.mul_comm x 128]]
  omega

theorem numGo_canon (s : ByteArray) (p : Nat) : ∀ f i u, f + i = 10 → (numGo s p f i u).2.2 = 0 →
    ∃ m x : Nat, 1 ≤ m ∧ p + i + m ≤ s.size ∧ (numGo s p f i u).2.1 = ((p + i + m : Nat) : Int) ∧ (numGo s p f i u).1 = unzig (u + x * 2 ^ (7 * i)) ∧ (s.data.toList.drop (p + i)).take m = vput (f - 1) x ∧ (0 < i → x ≠ 0) := by
  intro f
  induction f with
  | zero => intro i u _ h; simp [numGo] at h
  | succ f ih =>
    intro i u hfi h
    by_cases hp : p + i < s.size
    · have hd := drop_at s (p + i) hp
      by_cases h9 : i = 9 ∧ 1 < s[p + i].toNat
      · rw [numGo_ten hp h9.1 h9.2] at h; cases h
      · by_cases hc : s[p + i].toNat < 128
        · by_cases h0 : s[p + i].toNat = 0 ∧ 0 < i
          · rw [numGo_zero hp h0.2 h0.1] at h; cases h
          · rw [numGo_last hp h9 hc h0]
            refine ⟨1, s[p + i].toNat, by omega, by omega, by simp, ?_, ?_, by omega⟩
            · simp only [Nat.mod_eq_of_lt hc]
            · rw [hd, show f + 1 - 1 = f by omega, vput_small hc]; simp
        · have h9' : ¬ i = 9 := by
            intro e
            exact h9 ⟨e, by omega⟩
          rw [numGo_more hp h9' hc] at h ⊢
          obtain ⟨m, x, hm, hsz, ha, hn, hl, hx⟩ := ih (i + 1) _ (by omega) h
          have hx := hx (by omega)
          refine ⟨m + 1, s[p + i].toNat % 128 + 128 * x, by omega, by omega, by rw [ha]; congr 1; omega, by rw [hn, shift_split], ?_, by omega⟩
          have hf : f + 1 - 1 = (f - 1) + 1 := by omega
          rw [hd, hf, vput_big (by omega), show (s[p + i].toNat % 128 + 128 * x) % 128 + 128 = s[p + i].toNat % 128 + 128 by omega, ofNat_high _ hc, show (s[p + i].toNat % 128 + 128 * x) / 128 = x by omega,
            List.take_succ_cons, show p + i + 1 = p + (i + 1) by omega, hl]
    · rw [numGo_short hp] at h; cases h

theorem getNum_canon {s : ByteArray} {p : Int} (h : (getNum s p).2.2 = 0) :
    0 ≤ p ∧ s.size ≤ 8000 ∧ ∃ m : Nat, 1 ≤ m ∧ p.toNat + m ≤ s.size ∧ (getNum s p).2.1 = ((p.toNat + m : Nat) : Int) ∧ (s.data.toList.drop p.toNat).take m = putNum (getNum s p).1 := by
  by_cases h1 : 8000 < s.size
  · rw [getNum_long h1] at h; cases h
  by_cases h2 : p < 0
  · rw [getNum_neg h1 h2] at h; cases h
  refine ⟨by omega, by omega, ?_⟩
  obtain ⟨q, rfl⟩ := Int.eq_ofNat_of_zero_le (by omega : 0 ≤ p)
  rw [getNum_ok h1] at h ⊢
  obtain ⟨m, x, hm, hsz, ha, hn, hl, -⟩ := numGo_canon s q 10 0 0 (by omega) h
  refine ⟨m, hm, by simpa using hsz, by simpa using ha, ?_⟩
  rw [hn]
  simp only [Nat.mul_zero, Nat.pow_zero, Nat.mul_one, Nat.zero_add]
  rw [putNum, zig_unzig, ← hl]
  simp

theorem getText_canon {s : ByteArray} {p : Int} (h : (getText s p).2.2 = 0) :
    0 ≤ p ∧ s.size ≤ 8000 ∧ ∃ m : Nat, 1 ≤ m ∧ p.toNat + m ≤ s.size ∧ (getText s p).2.1 = ((p.toNat + m : Nat) : Int) ∧ (s.data.toList.drop p.toNat).take m = putText (bstr (getText s p).1) := by
  by_cases h1 : (getNum s p).2.2 ≠ 0
  · rw [getText_code h1] at h; exact absurd h h1
  have h0 : (getNum s p).2.2 = 0 := by simpa using h1
  by_cases h2 : (getNum s p).1 < 0 ∨ 8000 < (getNum s p).1
  · rw [getText_size h1 h2] at h; cases h
  by_cases h3 : (s.size : Int) < (getNum s p).2.1 + (getNum s p).1
  · rw [getText_short h1 h2 h3] at h; cases h
  rw [getText_ok h1 h2 h3]
  obtain ⟨hp, hs, m, hm, hpm, ha, hl⟩ := getNum_canon h0
  refine ⟨hp, hs, ?_⟩
  generalize getNum s p = R at *
  obtain ⟨n, a, c⟩ := R
  simp only at *
  subst ha
  obtain ⟨k, rfl⟩ := Int.eq_ofNat_of_zero_le (by omega : 0 ≤ n)
  generalize p.toNat = q at *
  have hsz : s.data.toList.length = s.size := rfl
  have e1 : ((q + m : Nat) : Int).toNat = q + m := by omega
  have e2 : (((q + m : Nat) : Int) + (k : Int)).toNat = q + m + k := by omega
  rw [e1, e2]
  have e3 : (s.extract (q + m) (q + m + k)).data.toList = (s.data.toList.drop (q + m)).take k := by
    simp [ByteArray.data_extract, Array.toList_extract, List.extract_eq_take_drop]
  refine ⟨m + k, by omega, by omega, by omega, ?_⟩
  rw [e3]
  have e4 : ((s.data.toList.drop (q + m)).take k).length = k := by rw [List.length_take, List.length_drop, hsz]; omega
  rw [putText_ok (by rw [bstr_size, e4]; omega), bstr_size, e4, bstr_list, ← hl, List.take_add, List.drop_drop]

/-! an encoded number is accepted -/
theorem numGo_put (s : ByteArray) (p : Nat) : ∀ f i u x, f + i = 9 → x < 2 ^ (64 - 7 * i) → (0 < i → x ≠ 0) → (∃ rest, s.data.toList.drop (p + i) = vput f x ++ rest) →
    numGo s p (f + 1) i u = (unzig (u + x * 2 ^ (7 * i)), ((p + i + (vput f x).length : Nat) : Int), 0) := by
  intro f
  have hsz : s.data.toList.length = s.size := rfl
  induction f with
  | zero =>
    intro i u x hi hx h0 hr
    obtain rfl : i = 9 := by omega
    obtain ⟨rest, hr⟩ := hr
    simp only [vput, List.cons_append, List.nil_append] at hr
    have hp : p + 9 < s.size := by
      have := congrArg List.length hr; simp only [List.length_drop, List.length_cons, hsz] at this; omega
    rw [drop_at s (p + 9) hp] at hr
    have hb : s[p + 9] = UInt8.ofNat x := (List.cons.inj hr).1
    have hx2 : x < 2 := by simpa using hx
    have hbn : s[p + 9].toNat = x := by rw [hb, UInt8.toNat_ofNat']; omega
    rw [numGo_last hp (by omega) (by omega) (by rw [hbn]; intro h; exact h0 (by omega) h.1), hbn, Nat.mod_eq_of_lt (by omega)]
    simp [vput]
  | succ f ih =>
    intro i u x hi hx h0 hr
    obtain ⟨rest, hr⟩ := hr
    by_cases hlt : x < 128
    · rw [vput_small hlt] at hr ⊢
      have hp : p + i < s.size := by
        have := congrArg List.length hr; simp only [List.length_drop, List.length_append, List.length_cons, hsz] at this; omega
      rw [drop_at s (p + i) hp] at hr
      have hb : s[p + i] = UInt8.ofNat x := (List.cons.inj hr).1
      have hbn : s[p + i].toNat = x := by rw [hb, UInt8.toNat_ofNat']; omega
      rw [numGo_last hp (by omega) (by omega) (by rw [hbn]; intro h; exact h0 h.2 h.1), hbn, Nat.mod_eq_of_lt hlt]
      simp
    · rw [vput_big hlt] at hr ⊢
      have hp : p + i < s.size := by
        have := congrArg List.length hr; simp only [List.length_drop, List.length_append, List.length_cons, hsz] at this; omega
      rw [drop_at s (p + i) hp, List.cons_append] at hr
      obtain ⟨hb, hrest⟩ := List.cons.inj hr
      have hbn : s[p + i].toNat = x % 128 + 128 := by rw [hb, UInt8.toNat_ofNat']; omega
      have hpow : (2 : Nat) ^ (64 - 7 * i) = 128 * 2 ^ (64 - 7 * (i + 1)) := by
        rw [show 64 - 7 * i = (64 - 7 * (i + 1)) + 7 by omega, Nat.pow_add, Nat.mul_comm]
      rw [numGo_more hp (by omega) (by omega), ih (i + 1) _ (x / 128) (by omega) (by rw [hpow] at hx; omega) (by omega) ⟨rest, by rw [show p + (i + 1) = p + i + 1 by omega]; exact hrest⟩, hbn,
        show (x % 128 + 128) % 128 = x % 128 by omega, shift_split, show x % 128 + 128 * (x / 128) = x by omega]
      simp only [List.length_cons]
      congr 2
      congr 1
      omega
theorem getNum_put {s : ByteArray} {p : Nat} {n : Int} (hs : s.size ≤ 8000) (h1 : -9223372036854775808 ≤ n) (h2 : n ≤ 9223372036854775807) (hr : ∃ rest, s.data.toList.drop p = putNum n ++ rest) :
    getNum s p = (n, ((p + (putNum n).length : Nat) : Int), 0) := by
  have hz : zig n < 2 ^ (64 - 7 * 0) := by
    have e : (2 : Nat) ^ (64 - 7 * 0) = 18446744073709551616 := by decide
    rw [e]; exact zig_lt h1 h2
  have h := numGo_put s p 9 0 0 (zig n) (by omega) hz (by omega) hr
  rw [getNum_ok (by omega), h]
  simp only [Nat.mul_zero, Nat.pow_zero, Nat.mul_one, Nat.zero_add, unzig_zig, Nat.add_zero, putNum]
theorem getText_put {s d : ByteArray} {p : Nat} (hs : s.size ≤ 8000) (hd : d.size ≤ 8000) (hr : ∃ rest, s.data.toList.drop p = putText d ++ rest) :
    getText s p = (d.data.toList, ((p + (putText d).length : Nat) : Int), 0) := by
  obtain ⟨rest, hr⟩ := hr
  have hdz : d.data.toList.length = d.size := rfl
  have hsz : s.data.toList.length = s.size := rfl
  rw [putText_ok (by omega)] at hr ⊢
  have hg := getNum_put (s := s) (p := p) (n := (d.size : Int)) hs (by omega) (by omega) ⟨d.data.toList ++ rest, by rw [hr, List.append_assoc]⟩
  have hL := (putNum_length (d.size : Int)).1
  generalize putNum (d.size : Int) = L at hr hg hL ⊢
  have hlen := congrArg List.length hr
  simp only [List.length_drop, List.length_append, hsz, hdz] at hlen
  have g1 : (getNum s p).1 = (d.size : Int) := by rw [hg]
  have g2 : (getNum s p).2.1 = ((p + L.length : Nat) : Int) := by rw [hg]
  have g3 : (getNum s p).2.2 = 0 := by rw [hg]
  have hl1 : 1 ≤ L.length := hL
  · rw [getText_ok (by rw [g3]; simp) (by rw [g1]; omega) (by rw [g1, g2]; omega), g1, g2]
    have e1 : (((p + L.length : Nat) : Int)).toNat = p + L.length := by omega
    have e2 : (((p + L.length : Nat) : Int) + (d.size : Int)).toNat = p + L.length + d.size := by omega
    have e3 : (s.extract (p + L.length) (p + L.length + d.size)).data.toList = (s.data.toList.drop (p + L.length)).take d.size := by
      simp [ByteArray.data_extract, Array.toList_extract, List.extract_eq_take_drop]
    have e4 : (s.data.toList.drop (p + L.length)).take d.size = d.data.toList := by
      rw [← List.drop_drop, hr, List.append_assoc, List.drop_left, ← hdz, List.take_left]
    rw [e1, e2, e3, e4, List.length_append, hdz]
    congr 2
    omega

/-! records -/
structure Rc where
  k : Int
  s : Int
  q : Int
  t : Int
  o : Int
  d : ByteArray
def Rc.zero : Rc := ⟨0, 0, 0, 0, 0, ⟨#[]⟩⟩
/-- validity -/
def Rc.Ok (r : Rc) : Prop := 1 ≤ r.k ∧ r.k ≤ 4 ∧ 0 ≤ r.s ∧ r.s ≤ 5 ∧ 1 ≤ r.q ∧ r.q ≤ 1000000 ∧ 0 ≤ r.t ∧ r.t ≤ 1000000 ∧ 0 ≤ r.o ∧ r.o ≤ r.t ∧ r.d.size ≤ 16 ∧
  (r.k ≤ 2 → r.o = 0) ∧ (2 ≤ r.k → r.d.size = 0) ∧ (3 ≤ r.k → r.s = 0)
instance (r : Rc) : Decidable r.Ok := by unfold Rc.Ok; infer_instance
def Rc.body (r : Rc) : List UInt8 := putNum r.k ++ (putNum r.s ++ (putNum r.q ++ (putNum r.t ++ (putNum r.o ++ putText r.d))))
def Rc.bytes (r : Rc) : List UInt8 := if r.Ok then sealed (bstr r.body) else []
theorem Rc.bytes_bad {r : Rc} (h : ¬ r.Ok) : r.bytes = [] := by simp [Rc.bytes, h]
theorem Rc.bytes_ok {r : Rc} (h : r.Ok) : r.bytes = sealed (bstr r.body) := by simp [Rc.bytes, h]
theorem Rc.body_length {r : Rc} (h : r.Ok) : r.body.length ≤ 76 := by
  have h1 := (putNum_length r.k).2; have h2 := (putNum_length r.s).2; have h3 := (putNum_length r.q).2; have h4 := (putNum_length r.t).2; have h5 := (putNum_length r.o).2
  have h6 := (putNum_length (r.d.size : Int)).2
  have hd : r.d.size ≤ 16 := h.2.2.2.2.2.2.2.2.2.2.1
  have hl : r.d.data.toList.length = r.d.size := rfl
  simp only [Rc.body, putText_ok (show ¬ 8000 < r.d.size by omega), List.length_append, hl]
  omega

/-- the model's reader: the place, and whether something was wrong -/
def rdNum (s : ByteArray) (x : Int × Bool) : Int × (Int × Bool) := if x.2 = true ∨ (getNum s x.1).2.2 ≠ 0 then (0, (x.1, true)) else ((getNum s x.1).1, ((getNum s x.1).2.1, false))
def rdText (s : ByteArray) (x : Int × Bool) : List UInt8 × (Int × Bool) := if x.2 = true ∨ (getText s x.1).2.2 ≠ 0 then ([], (x.1, true)) else ((getText s x.1).1, ((getText s x.1).2.1, false))
theorem rdNum_bad {s : ByteArray} {x : Int × Bool} (h : x.2 = true ∨ (getNum s x.1).2.2 ≠ 0) : rdNum s x = (0, (x.1, true)) := by simp only [rdNum, h, if_true]
theorem rdNum_ok {s : ByteArray} {x : Int × Bool} (h : ¬ (x.2 = true ∨ (getNum s x.1).2.2 ≠ 0)) : rdNum s x = ((getNum s x.1).1, ((getNum s x.1).2.1, false)) := by simp only [rdNum, h, if_false]
theorem rdText_bad {s : ByteArray} {x : Int × Bool} (h : x.2 = true ∨ (getText s x.1).2.2 ≠ 0) : rdText s x = ([], (x.1, true)) := by simp only [rdText, h, if_true]
theorem rdText_ok {s : ByteArray} {x : Int × Bool} (h : ¬ (x.2 = true ∨ (getText s x.1).2.2 ≠ 0)) : rdText s x = ((getText s x.1).1, ((getText s x.1).2.1, false)) := by simp only [rdText, h, if_false]
/-- the reader behind k numbers -/
def rdAt (s : ByteArray) : Nat → Int × Bool
  | 0 => (0, false)
  | k + 1 => (rdNum s (rdAt s k)).2
def rdVal (s : ByteArray) (k : Nat) : Int := (rdNum s (rdAt s k)).1
def rdEnd (s : ByteArray) : List UInt8 × (Int × Bool) := rdText s (rdAt s 5)
def rdRec (s : ByteArray) : Rc := ⟨rdVal s 0, rdVal s 1, rdVal s 2, rdVal s 3, rdVal s 4, bstr (rdEnd s).1⟩
/-- what RecRead answers, as the program finds it -/
def recRead (t : ByteArray) : Rc × Int :=
  if (opened t).2 ≠ 0 then (Rc.zero, (opened t).2)
  else if (rdEnd (bstr (opened t).1)).2.2 = false ∧ (rdEnd (bstr (opened t).1)).2.1 = ((bstr (opened t).1).size : Int) ∧ (rdRec (bstr (opened t).1)).Ok then (rdRec (bstr (opened t).1), 0) else (Rc.zero, 3)

/-- as long as nothing is wrong, the bytes before the reader's place are the encodings of the numbers -/
def rdBody (s : ByteArray) : Nat → List UInt8
  | 0 => []
  | k + 1 => rdBody s k ++ putNum (rdVal s k)
theorem rdAt_mono {s : ByteArray} {k : Nat} (h : (rdAt s (k + 1)).2 = false) : (rdAt s k).2 = false ∧ (getNum s (rdAt s k).1).2.2 = 0 := by
  by_cases hc : (rdAt s k).2 = true ∨ (getNum s (rdAt s k).1).2.2 ≠ 0
  · rw [rdAt, rdNum_bad hc] at h; cases h
  · simpa using hc
theorem rdAt_body {s : ByteArray} : ∀ k, (rdAt s k).2 = false → 0 ≤ (rdAt s k).1 ∧ (rdAt s k).1 ≤ s.size ∧ s.data.toList.take (rdAt s k).1.toNat = rdBody s k
  | 0, _ => by simp [rdAt, rdBody]
  | k + 1, h => by
    obtain ⟨h1, h2⟩ := rdAt_mono h
    obtain ⟨i0, i1, i2⟩ := rdAt_body k h1
    obtain ⟨_, _, m, hm, hpm, ha, hl⟩ := getNum_canon h2
    have hc : ¬ ((rdAt s k).2 = true ∨ (getNum s (rdAt s k).1).2.2 ≠ 0) := by simp [h1, h2]
    have e : (rdAt s (k + 1)).1 = (((rdAt s k).1.toNat + m : Nat) : Int) := by rw [rdAt, rdNum_ok hc]; exact ha
    have ev : rdVal s k = (getNum s (rdAt s k).1).1 := by rw [rdVal, rdNum_ok hc]
    rw [e]
    refine ⟨by omega, by omega, ?_⟩
    rw [Int.toNat_natCast, rdBody, ← i2, ev, ← hl, List.take_add]
theorem rdEnd_body {s : ByteArray} (h : (rdEnd s).2.2 = false) : (rdAt s 5).2 = false ∧ 0 ≤ (rdEnd s).2.1 ∧ (rdEnd s).2.1 ≤ s.size ∧ s.data.toList.take (rdEnd s).2.1.toNat = (rdRec s).body := by
  by_cases hc : (rdAt s 5).2 = true ∨ (getText s (rdAt s 5).1).2.2 ≠ 0
  · rw [rdEnd, rdText_bad hc] at h; cases h
  have h1 : (rdAt s 5).2 = false := by simpa using fun e => hc (.inl e)
  have h2 : (getText s (rdAt s 5).1).2.2 = 0 := by
    by_cases e : (getText s (rdAt s 5).1).2.2 = 0
    · exact e
    · exact absurd (.inr e) hc
  obtain ⟨i0, i1, i2⟩ := rdAt_body 5 h1
  obtain ⟨_, _, m, hm, hpm, ha, hl⟩ := getText_canon h2
  have e : (rdEnd s).2.1 = (((rdAt s 5).1.toNat + m : Nat) : Int) := by rw [rdEnd, rdText_ok hc]; exact ha
  have ed : (rdEnd s).1 = (getText s (rdAt s 5).1).1 := by rw [rdEnd, rdText_ok hc]
  rw [e]
  refine ⟨h1, by omega, by omega, ?_⟩
  rw [Int.toNat_natCast, List.take_add, i2, hl, ← ed]
  simp [Rc.body, rdRec, rdBody, List.append_assoc]

theorem opened_split {t : ByteArray} (h : (opened t).2 = 0) : t.size ≤ 8000 ∧ 4 ≤ t.size ∧ (opened t).1.length = t.size - 4 ∧ t.data.toList = (opened t).1 ++ sum (opened t).1 := by
  by_cases h1 : 8000 < t.size
  · rw [opened_long h1] at h; cases h
  by_cases h2 : t.size < 4
  · rw [opened_short h2] at h; cases h
  by_cases h3 : sum (t.data.toList.take (t.size - 4)) = t.data.toList.drop (t.size - 4)
  · rw [opened_ok h1 h2 h3]
    have hl : t.data.toList.length = t.size := rfl
    refine ⟨by omega, by omega, by simp only [List.length_take, hl]; omega, ?_⟩
    simp only [h3, List.take_append_drop]
  · rw [opened_bad h1 h2 h3] at h; cases h
theorem sealed_ne {s : ByteArray} (h : ¬ 7996 < s.size) : sealed s ≠ [] := by
  rw [seal_ok h]; intro e
  have := congrArg List.length e; simp only [List.length_append, sum_length, List.length_nil] at this; omega

/-- the model's last test (the encoding is the text) is the program's (the fields end with the text, and the record is valid) -/
theorem ends_iff {t : ByteArray} (h0 : (opened t).2 = 0) (hb : (rdEnd (bstr (opened t).1)).2.2 = false) :
    (rdRec (bstr (opened t).1)).bytes = t.data.toList ↔ ((rdEnd (bstr (opened t).1)).2.1 = ((bstr (opened t).1).size : Int) ∧ (rdRec (bstr (opened t).1)).Ok) := by
  obtain ⟨h1, h2, h3, h4⟩ := opened_split h0
  obtain ⟨-, e0, e1, e2⟩ := rdEnd_body hb
  have hl : t.data.toList.length = t.size := rfl
  rw [bstr_list] at e2
  rw [bstr_size] at e1 ⊢
  generalize (opened t).1 = u at *
  generalize hR : rdRec (bstr u) = R at *
  generalize (rdEnd (bstr u)).2.1 = a at *
  constructor
  · intro h
    by_cases hok : R.Ok
    · refine ⟨?_, hok⟩
      have hbl := Rc.body_length hok
      rw [Rc.bytes_ok hok, seal_ok (by rw [bstr_size]; omega), bstr_list] at h
      have hlen := congrArg List.length h
      rw [List.length_append, sum_length, hl] at hlen
      have hta := congrArg List.length e2
      rw [List.length_take] at hta
      omega
    · rw [Rc.bytes_bad hok] at h
      have := congrArg List.length h
      rw [hl] at this; simp at this; omega
  · rintro ⟨ha, hok⟩
    subst ha
    rw [Int.toNat_natCast, List.take_length] at e2
    have hbl := Rc.body_length hok
    rw [Rc.bytes_ok hok, seal_ok (by rw [bstr_size]; omega), bstr_list, ← e2, h4]

theorem recRead_code {t : ByteArray} (h : (opened t).2 ≠ 0) : recRead t = (Rc.zero, (opened t).2) := by unfold recRead; rw [if_pos h]
theorem recRead_bad {t : ByteArray} (h : ¬ (opened t).2 ≠ 0) (h1 : ¬ ((rdEnd (bstr (opened t).1)).2.2 = false ∧ (rdEnd (bstr (opened t).1)).2.1 = ((bstr (opened t).1).size : Int) ∧ (rdRec (bstr (opened t).1)).Ok)) : recRead t = (Rc.zero, 3) := by
  unfold recRead; rw [if_neg h, if_neg h1]
theorem recRead_ok {t : ByteArray} (h : ¬ (opened t).2 ≠ 0) (h1 : (rdEnd (bstr (opened t).1)).2.2 = false ∧ (rdEnd (bstr (opened t).1)).2.1 = ((bstr (opened t).1).size : Int) ∧ (rdRec (bstr (opened t).1)).Ok) : recRead t = (rdRec (bstr (opened t).1), 0) := by
  unfold recRead; rw [if_neg h, if_pos h1]

end Go.Proofs.YtloaeglmngcenaaGreatDoor.Bt
