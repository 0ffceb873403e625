/-
  The program's arrays of four pages: copied out of a slice, counted, looked over.
-/
import Derived.Test.YtfpibbhcecdbgaaGreatDoorProg
import Derived.KernelRfl
import Derived.Test.YtfpibbhcecdbgaaGreatDoorNdRight
import Derived.StillTailTactics
import Derived.Laws.CopyRow
import Derived.Laws.CopyOwn
namespace Go.Proofs.YtfpibbhcecdbgaaGreatDoor
open Go.RowKit

/-- 'copy(dst, src)' of elements of some cells, dst a part of block g -/
theorem run_copy_rows {P : Program} (w : World) (dT sT ty elem : TypeId) (g o dLen dCap : Nat) (a : Addr) (sLen sCap sz : Nat) (cur : Array Value) (t : TypeId) (cs : List Value)
    (hu : P.underlying dT = some (.slice elem)) (hs : (P.info? elem).map (·.size) = some sz)
    (hg : w.heap[g]? = some (.cells cur t (0, 0))) (hn : cs.length = Nat.min sLen dLen * sz)
    (hsrc : ∀ j v, cs[j]? = some v → w.cell? (a.add j) = some v) (hfit : o + cs.length ≤ cur.size) (h1 : ∀ v ∈ cs, v.oneCell' = true) :
    (Builtin.copy_ #[dT, sT] ty #[.slice (some ⟨g, o, none⟩) dLen dCap, .slice (some a) sLen sCap]).run P w =
      .ok (goInt (Nat.min sLen dLen)) (w.setRow g (cur.toList.take o ++ cs ++ cur.toList.drop (o + cs.length)).toArray) := by
  have hl := run_loadCells_list (P := P) w a cs hsrc
  have hst := run_storeCells_at P g o t cs 0 cur w hg (by simpa using hfit) h1
  cases hq : P.info? elem with
  | none => simp [hq] at hs
  | some i =>
    have hi : i.size = sz := by simpa [hq] using hs
    simp [Builtin.copy_, run_underlying hu, Builtin.lenOf, Builtin.firstCells, sizeOf, typeInfo, hq, hi, ← hn, hl, hst]
theorem wpList_copy_rows {P : Program} {w : World} {ops : Array Oper} {rest : List Oper} {o : Oper} {a : Act} {Q : Exit → Act → World → Prop} (hgd : o.guard = none) (d s : Operand) (dT sT : TypeId)
    (ho : o.op = .call { callee := .builtin .copy, args := #[d, s], argTypes := #[dT, sT] }) (elem : TypeId) (sz : Nat) (hu : P.underlying dT = some (.slice elem)) (hsz : (P.info? elem).map (·.size) = some sz)
    (g off dLen dCap : Nat) (ad : Addr) (sLen sCap : Nat) (hd : a.eval d = .slice (some ⟨g, off, none⟩) dLen dCap) (hs : a.eval s = .slice (some ad) sLen sCap)
    (cur : List Value) (t : TypeId) (hg : IsBlk w g t cur) (cs : List Value) (hn : cs.length = Nat.min sLen dLen * sz)
    (hsrc : ∀ j v, cs[j]? = some v → w.cell? (ad.add j) = some v) (hfit : off + cs.length ≤ cur.length) (h1 : ∀ v ∈ cs, v.oneCell' = true) (B : Nat) (w0 : World) (hb : Below B w0 w) (hBg : B ≤ g)
    (h : ∀ w', Hid (IsBlk w' g t (splice cur off cs)) → Hid (Below B w0 w') → wpList P ops Q rest (a.put o.dst (goInt (Nat.min sLen dLen))) w') : wpList P ops Q (o :: rest) a w := by
  refine wpList_plain hgd fun K hK => ?_
  have hrun := run_copy_rows (P := P) w dT sT o.type elem g off dLen dCap ad sLen sCap sz cur.toArray t cs hu hsz hg hn hsrc (by simpa using hfit) h1
  unfold Oper.wp
  simp [execOp, ho, resolve, invoke, builtin, hd, hs, hrun, Result.andThen]
  refine hK _ _ (h _ (show IsBlk _ _ _ _ from ?_) (show Below _ _ _ from below_setRow hb hBg _))
  have := setRow_heap w g cur.toArray (cur.toArray.toList.take off ++ cs ++ cur.toArray.toList.drop (off + cs.length)).toArray t _ hg
  unfold IsBlk splice
  simpa using this

/-- an array of four pages -/
def pcells (a b c d : Pg) : List Value := [.bool a.used, .string a.data, .bool b.used, .string b.data, .bool c.used, .string c.data, .bool d.used, .string d.data]
abbrev parr (a b c d : Pg) : Value := .agg #[.bool a.used, .string a.data, .bool b.used, .string b.data, .bool c.used, .string c.data, .bool d.used, .string d.data]
theorem pcells_F (a b c d : Pg) (j : Nat) (v : Value) (h : (pcells a b c d)[j]? = some v) : j < 8 ∧ pgF [a, b, c, d] j = v := by
  match j, h with
  | 0, h | 1, h | 2, h | 3, h | 4, h | 5, h | 6, h | 7, h => exact ⟨by omega, by simpa [pcells, pgF] using h⟩
  | j + 8, h => simp [pcells] at h
theorem pcells_one (a b c d : Pg) : ∀ v ∈ pcells a b c d, v.oneCell' = true := by
  intro v hv
  simp only [pcells, List.mem_cons, List.not_mem_nil, or_false] at hv
  rcases hv with h | h | h | h | h | h | h | h <;> subst h <;> rfl
theorem blk8 {w : World} {g : Nat} {e : TypeId} {a b c d : Pg} (h : IsBlk w g e (pcells a b c d)) :
    (w.cell? ⟨g, 0, none⟩ = some (.bool a.used) ∧ w.cell? ⟨g, 1, none⟩ = some (.string a.data) ∧ w.cell? ⟨g, 2, none⟩ = some (.bool b.used) ∧ w.cell? ⟨g, 3, none⟩ = some (.string b.data) ∧
    w.cell? ⟨g, 4, none⟩ = some (.bool c.used) ∧ w.cell? ⟨g, 5, none⟩ = some (.string c.data) ∧ w.cell? ⟨g, 6, none⟩ = some (.bool d.used) ∧ w.cell? ⟨g, 7, none⟩ = some (.string d.data)) ∧
    (w.frozen? ⟨g, 0, none⟩ = false ∧ w.frozen? ⟨g, 1, none⟩ = false ∧ w.frozen? ⟨g, 2, none⟩ = false ∧ w.frozen? ⟨g, 3, none⟩ = false ∧ w.frozen? ⟨g, 4, none⟩ = false ∧ w.frozen? ⟨g, 5, none⟩ = false ∧
    w.frozen? ⟨g, 6, none⟩ = false ∧ w.frozen? ⟨g, 7, none⟩ = false) :=
  ⟨⟨h.cell rfl, h.cell rfl, h.cell rfl, h.cell rfl, h.cell rfl, h.cell rfl, h.cell rfl, h.cell rfl⟩, h.free, h.free, h.free, h.free, h.free, h.free, h.free, h.free⟩
theorem page_size : (Tryz.prog.info? 184).map (·.size) = some 2 := by kernel_rfl

set_option maxHeartbeats 1000000 in
set_option maxRecDepth 100000 in
theorem pagesOf_any (A : Option Addr) (ca : Nat) (a b c d : Pg) (er : Int) (bad : Bool) (w : World) (hA : RdPg w w.heap.size A 4 [a, b, c, d]) :
    Calls Tryz.prog 199 #[.agg #[.slice A 4 ca, .int .i64 er, .bool bad]] w fun e w' => e = .returned (parr a b c d) ∧ Below w.heap.size w w' := by
  obtain ⟨g, off, rfl, hg, hc⟩ := hA.2 (by omega)
  have HC := Lib.hid hc; clear hA hc
  go_enter Tryz.func199, Tryz.ntmps199
  go_wp2
  have HB : Hid (Below w.heap.size w (((w.alloc (.cells #[.slice (some ⟨g, off, none⟩) 4 ca, .int .i64 er, .bool bad] 98)).alloc (.cells (pcells zeroPg zeroPg zeroPg zeroPg).toArray 233)).alloc (.cells (pcells zeroPg zeroPg zeroPg zeroPg).toArray 233))) :=
    (((Below.refl _ _).alloc (Nat.le_refl _) _).alloc (by simp) _).alloc (by simp; omega) _
  have k0 := (((isBlk_new w 98 [.slice (some ⟨g, off, none⟩) 4 ca, .int .i64 er, .bool bad]).alloc (.cells (pcells zeroPg zeroPg zeroPg zeroPg).toArray 233)).alloc (.cells (pcells zeroPg zeroPg zeroPg zeroPg).toArray 233))
  have k1 := (isBlk_new (w.alloc (.cells #[.slice (some ⟨g, off, none⟩) 4 ca, .int .i64 er, .bool bad] 98)) 233 (pcells zeroPg zeroPg zeroPg zeroPg)).alloc (.cells (pcells zeroPg zeroPg zeroPg zeroPg).toArray 233)
  have k2 := isBlk_new ((w.alloc (.cells #[.slice (some ⟨g, off, none⟩) 4 ca, .int .i64 er, .bool bad] 98)).alloc (.cells (pcells zeroPg zeroPg zeroPg zeroPg).toArray 233)) 233 (pcells zeroPg zeroPg zeroPg zeroPg)
  simp only [size_alloc] at k1 k2
  change Code.wp _ _ _ _ (((w.alloc (.cells #[.slice (some ⟨g, off, none⟩) 4 ca, .int .i64 er, .bool bad] 98)).alloc (.cells (pcells zeroPg zeroPg zeroPg zeroPg).toArray 233)).alloc (.cells (pcells zeroPg zeroPg zeroPg zeroPg).toArray 233))
  generalize (((w.alloc (.cells #[.slice (some ⟨g, off, none⟩) 4 ca, .int .i64 er, .bool bad] 98)).alloc (.cells (pcells zeroPg zeroPg zeroPg zeroPg).toArray 233)).alloc (.cells (pcells zeroPg zeroPg zeroPg zeroPg).toArray 233)) = W at HB k0 k1 k2 ⊢
  have HK1 := Lib.hid k1; have HK2 := Lib.hid k2
  obtain ⟨c0, -, -, -, -, -⟩ := blk3 k0
  clear k0 k1 k2
  go_still_tail 3, (by kernel_rfl)
  change wpList _ _ _ _ _ W.drew
  refine wpList_copy_rows rfl (.tmp 4) (.tmp 6) 96 96 rfl 184 2 Tryz.underlying96 page_size (w.heap.size + 1 + 1) 0 4 4 ⟨g, off, none⟩ 4 ca rfl rfl (pcells zeroPg zeroPg zeroPg zeroPg) 233 HK2.out (pcells a b c d) rfl ?_ (Nat.le_refl _) (pcells_one a b c d) (w.heap.size + 1 + 1) W.drew (Below.refl _ _) (Nat.le_refl _) ?_
  · intro j v hj
    obtain ⟨h8, hv⟩ := pcells_F a b c d j v hj
    rw [add_off]
    have h := (HB.out.drew.cell (p := ⟨g, off + j, none⟩) hg).trans (HC.out j (by omega))
    rw [hv] at h
    exact h
  intro w3 hk3 hb3
  have k3 : IsBlk w3 (w.heap.size + 1 + 1) 233 (pcells a b c d) := hk3.out
  have k1 : IsBlk w3 (w.heap.size + 1) 233 (pcells zeroPg zeroPg zeroPg zeroPg) := IsBlk.below (w := W.drew) HK1.out hb3.out (by omega)
  have HB3 := Lib.hid (HB.out.drew.trans (hb3.out.mono (by omega)))
  obtain ⟨⟨e0, e1, e2, e3, e4, e5, e6, e7⟩, -⟩ := blk8 k3
  obtain ⟨⟨d0, d1, d2, d3, d4, d5, d6, d7⟩, f0, f1, f2, f3, f4, f5, f6, f7⟩ := blk8 k1
  clear hk3 hb3 k3 k1 HK1 HK2 HB
  go_wp2
  refine bodyPost_ret (v := parr a b c d) (by simp [results, Tryz.results199, go_sem, d0, d1, d2, d3, d4, d5, d6, d7]) rfl ⟨rfl, ?_⟩
  repeat (with_reducible refine Below.setCell ?_ ?_ _)
  all_goals first | exact HB3.out | (dsimp only; omega)

/-- how many pages are used before the first unused one -/
def uPre : List Pg → Nat
  | [] => 0
  | p :: r => if p.used then uPre r + 1 else 0
theorem uPre_le (X : List Pg) : uPre X ≤ X.length := by
  induction X with
  | nil => exact Nat.le_refl _
  | cons p r ih => unfold uPre; split <;> simp; omega
theorem uPre_of {X : List Pg} {k : Nat} (hk : k ≤ X.length) (h : ∀ i, i < k → (X.getD i zeroPg).used = true) (hs : k = X.length ∨ (X.getD k zeroPg).used = false) : uPre X = k := by
  induction X generalizing k with
  | nil => simp at hk; subst hk; rfl
  | cons p r ih =>
    cases k with
    | zero =>
      rcases hs with hs | hs
      · simp at hs
      · have : p.used = false := by simpa using hs
        simp [uPre, this]
    | succ k =>
      have h0 : p.used = true := by simpa using h 0 (by omega)
      have := ih (k := k) (by simpa using hk) (fun i hi => by simpa using h (i + 1) (by omega)) (by simpa using hs)
      simp [uPre, h0, this]
theorem uPre_lt {X : List Pg} {i : Nat} (h : i < uPre X) : (X.getD i zeroPg).used = true := by
  induction X generalizing i with
  | nil => simp [uPre] at h
  | cons p r ih =>
    unfold uPre at h
    split at h
    · cases i with
      | zero => simpa
      | succ i => simpa using ih (by omega)
    · omega
theorem uPre_stop {X : List Pg} (h : uPre X < X.length) : (X.getD (uPre X) zeroPg).used = false := by
  induction X with
  | nil => simp [uPre] at h
  | cons p r ih =>
    unfold uPre at h ⊢
    split
    · rename_i hp
      rw [if_pos hp] at h
      simpa using ih (by simpa using h)
    · rename_i hp; simpa using hp

theorem parr_cells {w : World} {g : Nat} {e : TypeId} {a b c d : Pg} (h : IsBlk w g e (pcells a b c d)) {k : Nat} (hk : k < 4) :
    w.cell? ⟨g, k * 2, none⟩ = some (.bool ([a, b, c, d].getD k zeroPg).used) ∧ w.cell? ⟨g, k * 2 + 1, none⟩ = some (.string ([a, b, c, d].getD k zeroPg).data) := by
  match k, hk with
  | 0, _ => exact ⟨h.cell rfl, h.cell rfl⟩
  | 1, _ => exact ⟨h.cell rfl, h.cell rfl⟩
  | 2, _ => exact ⟨h.cell rfl, h.cell rfl⟩
  | 3, _ => exact ⟨h.cell rfl, h.cell rfl⟩

set_option maxHeartbeats 1000000 in
set_option maxRecDepth 100000 in
theorem used_any (a b c d : Pg) (w : World) :
    Calls Tryz.prog 200 #[parr a b c d] w fun e w' => e = .returned (.int .i64 ((uPre [a, b, c, d] : Nat) : Int)) ∧ Below w.heap.size w w' := by
  go_enter Tryz.func200, Tryz.ntmps200
  go_wp2
  have hk := isBlk_new w 233 (pcells a b c d)
  have hb : Below w.heap.size w (w.alloc (.cells (pcells a b c d).toArray 233)) := (Below.refl _ _).alloc (Nat.le_refl _) _
  change Code.wp _ _ _ _ (w.alloc (.cells (pcells a b c d).toArray 233))
  generalize w.alloc (.cells (pcells a b c d).toArray 233) = W at hk hb ⊢
  have HK := Lib.hid hk; have HB := Lib.hid hb
  clear hk hb
  go_loop [3] (fun i => ∃ k : Nat, k ≤ 4 ∧ i = .int .i64 (k : Nat) ∧ ∀ i, i < k → ([a, b, c, d].getD i zeroPg).used = true) (fun i => 4 - (intOf i).toNat)
  case atStart => exact ⟨0, by omega, rfl, fun i h => absurd h (by omega)⟩
  case round =>
    obtain ⟨k, hk, rfl, hall⟩ := hrel
    have HALL := Lib.hid hall; clear hall
    by_cases hlt : k < 4
    · obtain ⟨c0, -⟩ := parr_cells HK.out hlt
      have HU : Hid (([a, b, c, d].getD k zeroPg).used = false → uPre [a, b, c, d] = k) := fun h => uPre_of (by simpa using hk) HALL.out (.inr h)
      have HG : Hid (([a, b, c, d].getD k zeroPg).used = true → ∀ i, i < k + 1 → ([a, b, c, d].getD i zeroPg).used = true) := fun h i hi => by
        by_cases e : i = k
        · rw [e]; exact h
        · exact HALL.out i (by omega)
      generalize ([a, b, c, d].getD k zeroPg).used = u at c0 HU HG
      cases u with
      | false =>
        have HU2 := Lib.hid (HU.out rfl); clear HU HG
        go_wp2
        go_ret
        exact ⟨ret_i (by rw [HU2.out]), HB.out⟩
      | true =>
        have HG2 := Lib.hid (HG.out rfl); clear HU HG
        go_wp2
        go_round
        case rel => exact ⟨k + 1, by omega, by go_num, HG2.out⟩
        case measure => simp [intOf]; omega
    · obtain rfl : k = 4 := by omega
      go_wp2
      go_ret
      exact ⟨ret_i (by rw [uPre_of (k := 4) (by simp) HALL.out (.inl rfl)]; rfl), HB.out⟩

/-- the pages of a valid block, as the program looks at them -/
def PgsOk (X : List Pg) : Prop := ∀ k, k < 4 → (uPre X ≤ k → (X.getD k zeroPg).used = false ∧ (X.getD k zeroPg).data.size = 0) ∧ (X.getD k zeroPg).data.size ≤ 60
theorem pgsOk_iff {X : List Pg} (hl : X.length = 4) : PgsOk X ↔ ∀ k, k < 4 → ¬ PgBad X k := by
  constructor
  · intro h k hk hb
    obtain ⟨h1, h2⟩ := h k hk
    rcases hb with hb | ⟨hu, hd⟩ | ⟨h0, hu, hv⟩
    · omega
    · have : uPre X ≤ k := by
        rcases Nat.lt_or_ge k (uPre X) with h | h
        · rw [uPre_lt h] at hu; cases hu
        · exact h
      have := (h1 this).2; omega
    · have h3 : uPre X ≤ k - 1 := by
        rcases Nat.lt_or_ge (k - 1) (uPre X) with h | h
        · rw [uPre_lt h] at hv; cases hv
        · exact h
      have := (h1 (by omega)).1
      rw [this] at hu; cases hu
  · intro h k hk
    refine ⟨fun hu => ?_, ?_⟩
    · -- from the first unused page on all are unused
      have hall : ∀ m, uPre X + m < 4 → (X.getD (uPre X + m) zeroPg).used = false := by
        intro m
        induction m with
        | zero => intro hm; exact uPre_stop (by omega)
        | succ m ih =>
          intro hm
          have h1 := ih (by omega)
          rcases hq : (X.getD (uPre X + (m + 1)) zeroPg).used with _ | _
          · rfl
          · exact absurd (show PgBad X (uPre X + (m + 1)) from .inr (.inr ⟨by omega, hq, by rw [show uPre X + (m + 1) - 1 = uPre X + m by omega]; exact h1⟩)) (h _ hm)
      have h0 : (X.getD k zeroPg).used = false := by have := hall (k - uPre X) (by omega); rwa [show uPre X + (k - uPre X) = k by omega] at this
      refine ⟨h0, ?_⟩
      rcases Nat.eq_zero_or_pos (X.getD k zeroPg).data.size with hz | hz
      · exact hz
      · exact absurd (show PgBad X k from .inr (.inl ⟨h0, hz⟩)) (h k hk)
    · rcases Nat.lt_or_ge 60 (X.getD k zeroPg).data.size with hz | hz
      · exact absurd (show PgBad X k from .inl hz) (h k hk)
      · exact hz
open Classical in
noncomputable def pgsB (X : List Pg) : Bool := decide (PgsOk X)
theorem pgsB_yes {X : List Pg} (h : PgsOk X) : pgsB X = true := by simp [pgsB, h]
theorem pgsB_no {X : List Pg} (h : ¬ PgsOk X) : pgsB X = false := by simp [pgsB, h]

set_option maxHeartbeats 2000000 in
set_option maxRecDepth 100000 in
theorem right_any (a b c d : Pg) (w : World) :
    Calls Tryz.prog 227 #[parr a b c d] w fun e w' => e = .returned (.bool (pgsB [a, b, c, d])) ∧ Below w.heap.size w w' := by
  go_enter Tryz.func227, Tryz.ntmps227
  go_wp2_with fail
  refine (used_any a b c d _).mono ?_
  rintro e w1 ⟨rfl, hb1⟩
  have hk := (isBlk_new w 233 (pcells a b c d)).below hb1 (by show w.heap.size < (w.alloc _).heap.size; simp)
  have hb : Below w.heap.size w w1 := ((Below.refl _ _).alloc (Nat.le_refl _) _).trans (hb1.mono (by simp))
  have HK := Lib.hid hk; have HB := Lib.hid hb
  have hu4 : uPre [a, b, c, d] ≤ 4 := uPre_le [a, b, c, d]
  clear hk hb hb1
  obtain ⟨u, hu⟩ : ∃ u, u = uPre [a, b, c, d] := ⟨_, rfl⟩
  rw [← hu] at hu4 ⊢
  have HU := Lib.hid hu; clear hu
  go_wp2
  go_loop [7] (fun i => ∃ k : Nat, k ≤ 4 ∧ i = .int .i64 (k : Nat) ∧ ∀ i, i < k → (u ≤ i → ([a, b, c, d].getD i zeroPg).used = false ∧ ([a, b, c, d].getD i zeroPg).data.size = 0) ∧ ([a, b, c, d].getD i zeroPg).data.size ≤ 60) (fun i => 4 - (intOf i).toNat)
  case atStart => exact ⟨0, by omega, rfl, fun i h => absurd h (by omega)⟩
  case round =>
    obtain ⟨k, hk, rfl, hall⟩ := hrel
    have HALL := Lib.hid hall; clear hall
    by_cases hlt : k < 4
    · obtain ⟨c0, c1⟩ := parr_cells HK.out hlt
      have HNO : Hid (¬ ((u ≤ k → ([a, b, c, d].getD k zeroPg).used = false ∧ ([a, b, c, d].getD k zeroPg).data.size = 0) ∧ ([a, b, c, d].getD k zeroPg).data.size ≤ 60) → pgsB [a, b, c, d] = false) :=
        fun h => pgsB_no fun ho => h (by rw [HU.out]; exact ho k hlt)
      have HGO : Hid (((u ≤ k → ([a, b, c, d].getD k zeroPg).used = false ∧ ([a, b, c, d].getD k zeroPg).data.size = 0) ∧ ([a, b, c, d].getD k zeroPg).data.size ≤ 60) → ∀ i, i < k + 1 → (u ≤ i → ([a, b, c, d].getD i zeroPg).used = false ∧ ([a, b, c, d].getD i zeroPg).data.size = 0) ∧ ([a, b, c, d].getD i zeroPg).data.size ≤ 60) := fun h i hi => by
        by_cases e : i = k
        · rw [e]; exact h
        · exact HALL.out i (by omega)
      generalize [a, b, c, d].getD k zeroPg = p at c0 c1 HNO HGO
      obtain ⟨pu, pd⟩ := p
      simp only at c0 c1 HNO HGO
      by_cases hku : u ≤ k
      · cases pu with
        | true =>
          have HN := Lib.hid (HNO.out fun h => by have := (h.1 hku).1; cases this); clear HNO HGO
          go_wp2
          go_ret
          exact ⟨ret_b HN.out.symm, HB.out⟩
        | false =>
          by_cases hz : pd.size = 0
          · obtain rfl := nil_of_size hz
            have HG := Lib.hid (HGO.out ⟨fun _ => ⟨rfl, rfl⟩, by rw [hz]; omega⟩); clear HNO HGO hz
            go_wp2
            go_round
            case rel => exact ⟨k + 1, by omega, by go_num, HG.out⟩
            case measure => simp [intOf]; omega
          · have hf := full_of_size (s := pd) (by omega)
            have hf2 : ¬ pd.toList = [] := by intro e; rw [e] at hf; cases hf
            have HN := Lib.hid (HNO.out fun h => hz (h.1 hku).2); clear HNO HGO
            go_wp2
            go_ret
            exact ⟨ret_b HN.out.symm, HB.out⟩
      · have hku' : decide ((u : Int) ≤ (k : Int)) = false := by simp; omega
        by_cases h60 : 60 < pd.size
        · have HN := Lib.hid (HNO.out fun h => by have := h.2; omega); clear HNO HGO
          go_wp2
          go_ret
          exact ⟨ret_b HN.out.symm, HB.out⟩
        · have HG := Lib.hid (HGO.out ⟨fun h => absurd h hku, by omega⟩); clear HNO HGO
          go_wp2
          go_round
          case rel => exact ⟨k + 1, by omega, by go_num, HG.out⟩
          case measure => simp [intOf]; omega
    · obtain rfl : k = 4 := by omega
      go_wp2
      go_ret
      exact ⟨ret_b (pgsB_yes (by rw [HU.out] at HALL; exact HALL.out)).symm, HB.out⟩

set_option maxHeartbeats 1000000 in
theorem ndTime_any (n : Int) (w : World) :
    Calls Tryz.prog 179 #[.int .i64 n] w fun e w' => e = .returned (.bool (isB 0 1000000 n)) ∧ w = w' := by
  by_cases h1 : 0 ≤ n
  · by_cases h2 : n ≤ 1000000
    · rw [isB_yes ⟨h1, h2⟩]
      go_enter Tryz.func179, Tryz.ntmps179
      go_wp2
      go_ret
      exact ⟨rfl, rfl⟩
    · have h2' : decide (n ≤ 1000000) = false := by simpa using h2
      rw [isB_no (by omega)]
      go_enter Tryz.func179, Tryz.ntmps179
      go_wp2
      go_ret
      exact ⟨rfl, rfl⟩
  · have h1' : decide (0 ≤ n) = false := by simpa using h1
    rw [isB_no (by omega)]
    go_enter Tryz.func179, Tryz.ntmps179
    go_wp2
    go_ret
    exact ⟨rfl, rfl⟩

theorem four_of_length {X : List Pg} (h : X.length = 4) : ∃ a b c d, X = [a, b, c, d] := by
  match X, h with
  | [a, b, c, d], _ => exact ⟨a, b, c, d, rfl⟩
open Classical in
noncomputable def bkB (b : Bk) : Bool := decide (BkOk b)
theorem bkB_yes {b : Bk} (h : BkOk b) : bkB b = true := by simp [bkB, h]
theorem bkB_no {b : Bk} (h : ¬ BkOk b) : bkB b = false := by simp [bkB, h]

set_option maxHeartbeats 2000000 in
set_option maxRecDepth 100000 in
theorem blockRight_any (A : Option Addr) (n ca : Nat) (X : List Pg) (er : Int) (bad : Bool) (w : World) (hn : n ≤ 2147483648) (hA : RdPg w w.heap.size A n X) :
    Calls Tryz.prog 163 #[.agg #[.slice A n ca, .int .i64 er, .bool bad]] w fun e w' => e = .returned (.bool (bkB ⟨X, er, bad⟩)) ∧ Below w.heap.size w w' := by
  have hl := hA.1
  by_cases h4 : n = 4
  · subst h4
    obtain ⟨a, b, c, d, rfl⟩ := four_of_length hl
    have HA := Lib.hid hA; clear hA
    by_cases het : 0 ≤ er ∧ er ≤ 1000000
    · have hT := isB_yes het
      go_enter Tryz.func163, Tryz.ntmps163
      go_wp2_with fail
      refine (ndTime_any _ _).mono ?_
      rintro e w1 ⟨rfl, rfl⟩
      rw [hT]
      go_wp2_with fail
      refine (pagesOf_any A ca a b c d er bad _ ((HA.out.below ((Below.refl _ _).alloc (Nat.le_refl _) _)).mono (by simp))).mono ?_
      rintro e w2 ⟨rfl, hb2⟩
      have HB2 := Lib.hid (((Below.refl w.heap.size w).alloc (Nat.le_refl _) _).trans (hb2.mono (by simp)))
      clear hb2
      go_wp2_with fail
      refine (right_any a b c d _).mono ?_
      rintro e w3 ⟨rfl, hb3⟩
      have HB3 := Lib.hid (HB2.out.trans (hb3.mono HB2.out.size))
      clear hb3
      have HE : Hid (pgsB [a, b, c, d] = bkB ⟨[a, b, c, d], er, bad⟩) := by
        show pgsB [a, b, c, d] = _
        by_cases hp : PgsOk [a, b, c, d]
        · rw [pgsB_yes hp, bkB_yes ⟨rfl, het, (pgsOk_iff rfl).1 hp⟩]
        · rw [pgsB_no hp, bkB_no fun h => hp ((pgsOk_iff rfl).2 h.2.2)]
      go_wp2
      go_ret
      exact ⟨ret_b HE.out, HB3.out⟩
    · have hT := isB_no het
      go_enter Tryz.func163, Tryz.ntmps163
      go_wp2_with fail
      refine (ndTime_any _ _).mono ?_
      rintro e w1 ⟨rfl, rfl⟩
      rw [hT]
      go_wp2
      go_ret
      exact ⟨ret_b (bkB_no fun h => het h.2.1).symm, (Below.refl _ _).alloc (Nat.le_refl _) _⟩
  · have h4' : ((n : Int) == 4) = false := by simp; omega
    have h4'' : (n == 4) = false := by simpa using h4
    have HX : Hid (bkB ⟨X, er, bad⟩ = false) := bkB_no fun h => h4 (hl.symm.trans h.1)
    clear hA hl
    go_enter Tryz.func163, Tryz.ntmps163
    go_wp2
    go_ret
    exact ⟨ret_b HX.out.symm, (Below.refl _ _).alloc (Nat.le_refl _) _⟩
end Go.Proofs.YtfpibbhcecdbgaaGreatDoor
