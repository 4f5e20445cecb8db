/- The document's Check and Depth tell what the plain functions ck and dpth tell, for every text that is no longer than a text may be and every number of levels. -/
import Derived.Test.YtlnfbjgadcifkaaDoorTreeC
import Derived.StillTailTactics
import Derived.Deep.RegionHeld3
namespace Go.Proofs.YtlnfbjgadcifkaaDoor
open Go.RowKit Go.Proofs.BerM Go.Proofs.BerK Go.Proofs.MemK

/-- The document's Check's answer. -/
def CkPost (e : Nat) (w : World) (en : Ending) (w' : World) : Prop := en = .returned (.int .i64 (e : Nat)) ∧ Below w.heap.size w w'
theorem ckp_mk {e e' : Nat} {w w' : World} (h : e = e') (hb : Below w.heap.size w w') : CkPost e w (.returned (.int .i64 (e' : Nat))) w' := by
  subst h; exact ⟨rfl, hb⟩
theorem ck_err {m : Nat} {l : List UInt8} {t sz e : Nat} {b : List UInt8} (hr : rd l = (t, b, sz, e)) (he : e ≠ 0) : ck (m + 1) l = e := by
  rw [ck_succ, hr, if_pos he]
theorem ck_form {m : Nat} {l : List UInt8} {t sz : Nat} {b : List UInt8} (hr : rd l = (t, b, sz, 0)) (hs : sz < l.length) : ck (m + 1) l = 5 := by
  rw [ck_succ, hr, if_neg (by simp), if_pos hs]
theorem ck_plain {m : Nat} {l : List UInt8} {t sz : Nat} {b : List UInt8} (hr : rd l = (t, b, sz, 0)) (hs : ¬ sz < l.length) (ht : t / 32 % 2 = 0) : ck (m + 1) l = 0 := by
  rw [ck_succ, hr, if_neg (by simp), if_neg hs, if_pos ht]
theorem ck_parts {m : Nat} {l : List UInt8} {t sz e : Nat} {b : List UInt8} {P : List TB} (hr : rd l = (t, b, sz, 0)) (hs : ¬ sz < l.length) (ht : ¬ t / 32 % 2 = 0) (ha : al b = (P, e)) : ck (m + 1) l = if e ≠ 0 then e else ckL (ck m) P := by
  rw [ck_succ, hr, if_neg (by simp), if_neg hs, if_neg ht]
  simp only [ha]
theorem ckL_err {g : List UInt8 → Nat} {t : Nat} {b : List UInt8} {L : List TB} {e : Nat} (h : g (putL t b) = e) (he : e ≠ 0) : ckL g ((t, b) :: L) = e := by
  rw [ckL, h, if_pos he]
theorem ckL_go {g : List UInt8 → Nat} {t : Nat} {b : List UInt8} {L : List TB} (h : g (putL t b) = 0) : ckL g ((t, b) :: L) = ckL g L := by
  rw [ckL, h, if_neg (by simp)]
theorem putL_len (t : Int) (l : List UInt8) (h : l.length ≤ 65536) : (putL t l).length ≤ 65542 := by
  unfold putL; split
  · have := beF_len_le 4 l.length (by omega)
    simp only [List.length_cons, List.length_append]
    unfold lenB; split
    · simp only [List.length_cons, List.length_nil]; omega
    · simp only [List.length_cons]; omega
  · simp

end Go.Proofs.YtlnfbjgadcifkaaDoor
