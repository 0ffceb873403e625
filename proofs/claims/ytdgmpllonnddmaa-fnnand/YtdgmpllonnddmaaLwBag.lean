/-
  Blocks and chips of one memory, carried together past calls that leave old memory alone; what the answers of chapter 3 say of each other.
-/
import Derived.Test.YtdgmpllonnddmaaChecked
import Derived.Test.YtdgmpllonnddmaaLwNands
import Derived.Test.YtdgmpllonnddmaaDrOpen
import Derived.Test.YtdgmpllonnddmaaNdAns
import Derived.Test.YtdgmpllonnddmaaNdPage
import Derived.Test.YtdgmpllonnddmaaNdProg
import Derived.Test.YtdgmpllonnddmaaNdImp
import Derived.Test.YtdgmpllonnddmaaNdKeep
namespace Go.Proofs.Ytdgmpllonnddmaa
open Go.RowKit

/-- blocks and chips of one memory -/
structure Bg (w wr : World) (bs : List (Nat × TypeId × List Value)) (cs : List (Option Addr × List Bk)) : Prop where
  bel : Below w.heap.size w wr
  blk : ∀ b ∈ bs, IsBlk wr b.1 b.2.1 b.2.2
  chip : ∀ c ∈ cs, RdBk wr wr.heap.size c.1 c.2.length c.2 ∧ Small c.2
theorem Bg.start (w : World) : Bg w w [] [] := ⟨Below.refl _ _, by simp, by simp⟩
theorem Bg.step {w wr w' : World} {bs : List (Nat × TypeId × List Value)} {cs : List (Option Addr × List Bk)} (h : Bg w wr bs cs) (hb : Below wr.heap.size wr w') : Bg w w' bs cs :=
  ⟨bel_step h.bel hb, fun b hm => (h.blk b hm).below hb (h.blk b hm).lt, fun c hm => ⟨((h.chip c hm).1.below hb).mono hb.size, (h.chip c hm).2⟩⟩
theorem Bg.chipC {w wr w' : World} {bs : List (Nat × TypeId × List Value)} {cs : List (Option Addr × List Bk)} (h : Bg w wr bs cs) (hb : Below wr.heap.size wr w') {A : Option Addr} {X : List Bk} (hr : RdBk w' w'.heap.size A X.length X) (hs : Small X) : Bg w w' bs ((A, X) :: cs) :=
  have k := h.step hb
  ⟨k.bel, k.blk, fun c hm => by
    rcases List.mem_cons.1 hm with rfl | hm
    · exact ⟨hr, hs⟩
    · exact k.chip c hm⟩
theorem Bg.box {w wr : World} {bs : List (Nat × TypeId × List Value)} {cs : List (Option Addr × List Bk)} (h : Bg w wr bs cs) (t : TypeId) (l : List Value) : Bg w (wr.alloc (.cells l.toArray t)) ((wr.heap.size, t, l) :: bs) cs :=
  have k := h.step ((Below.refl _ _).alloc (Nat.le_refl _) (.cells l.toArray t))
  ⟨k.bel, fun b hm => by
    rcases List.mem_cons.1 hm with rfl | hm
    · exact isBlk_new wr t l
    · exact k.blk b hm, k.chip⟩
def PgSmall (b : Bk) : Prop := b.pages.length ≤ 1048576 ∧ ∀ p ∈ b.pages, p.data.size ≤ 1048576
theorem bg_nil : Small [] := ⟨by simp, fun b h => by cases h⟩
theorem bg_set {X : List Bk} (h : Small X) {k : Nat} {b : Bk} (hb : PgSmall b) : Small (X.set k b) := ⟨by simpa using h.1, fun c hc => by
  rcases List.mem_or_eq_of_mem_set hc with hc | rfl
  · exact h.2 c hc
  · exact hb⟩
theorem bg_at {X : List Bk} (h : Small X) (k : Nat) : PgSmall (X.getD k zeroBk) := by
  by_cases hk : k < X.length
  · exact h.2 _ (getD_lt hk)
  · rw [List.getD_eq_getElem?_getD, List.getElem?_eq_none (by omega)]
    exact ⟨by simp [zeroBk], fun p hp => by simp [zeroBk] at hp⟩
theorem mark_small {X : List Bk} (h : Small X) (bi : Int) : Small (markAns X bi).nd := by
  unfold markAns
  split
  · exact bg_nil
  · exact bg_set h (bg_at h _)
theorem erase_small {X : List Bk} (h : Small X) (bi : Int) : Small (eraseAns X bi).nd := by
  unfold eraseAns
  split
  · exact bg_nil
  · split
    · exact bg_nil
    · split
      · exact bg_nil
      · refine bg_set h ⟨by simp, fun p hp => ?_⟩
        simp only [List.mem_cons, List.not_mem_nil, or_false, or_self] at hp
        subst hp; simp [zeroPg, ByteArray.size]
theorem prog_small {X : List Bk} (h : Small X) (bi : Int) {d : ByteArray} (hd : d.size ≤ 61) : Small (progAns X bi d).nd := by
  unfold progAns
  split
  · exact bg_nil
  · split
    · exact bg_nil
    · split
      · exact bg_nil
      · split
        · exact bg_nil
        · split
          · exact bg_nil
          · have hb := bg_at h bi.toNat
            refine bg_set h ⟨by simpa using hb.1, fun p hp => ?_⟩
            rcases List.mem_or_eq_of_mem_set hp with hp | rfl
            · exact hb.2 p hp
            · show d.size ≤ 1048576; omega
theorem page_small {X : List Bk} (h : Small X) (bi pi : Int) : Small (pageAns X bi pi).nd := by
  unfold pageAns
  split
  · exact bg_nil
  · split
    · exact bg_nil
    · split
      · exact bg_nil
      · exact h
theorem new_small (bi : Int) : Small (newNd bi) := by
  unfold newNd
  split
  · refine ⟨?_, fun b hb => ?_⟩
    · simp; omega
    · obtain ⟨-, rfl⟩ := List.mem_replicate.1 hb
      refine ⟨by simp [freshBk], fun p hp => ?_⟩
      simp only [freshBk, List.mem_cons, List.not_mem_nil, or_false, or_self] at hp
      subst hp; simp [zeroPg, ByteArray.size]
  · exact bg_nil
theorem page_ok {X : List Bk} {bi pi : Int} (h : (pageAns X bi pi).code = 0) : NdOk (pageAns X bi pi).nd := by
  unfold pageAns at h ⊢
  split at h
  · rename_i h1; exact absurd h h1
  · rename_i h1
    have h1 : blkCode X bi = 0 := by simpa using h1
    rw [if_neg (by simpa using h1)]
    split at h
    · cases h
    · rename_i h2
      rw [if_neg h2]
      split at h
      · cases h
      · rename_i h3
        rw [if_neg h3]
        exact (blkCode_zero h1).1
end Go.Proofs.Ytdgmpllonnddmaa
