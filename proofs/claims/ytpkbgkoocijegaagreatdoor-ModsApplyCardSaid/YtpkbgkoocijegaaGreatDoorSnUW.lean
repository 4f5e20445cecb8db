/- The code's Types: the names of a schema's types, rising. The law's own person. The law's own given values come out as said. -/
import Derived.Test.YtpkbgkoocijegaaGreatDoorLaysA
import Derived.Test.YtpkbgkoocijegaaGreatDoorSnAL
import Derived.Sort.KeysCollected
import Derived.Test.YtpkbgkoocijegaaGreatDoorRuAD
import Derived.Test.YtpkbgkoocijegaaGreatDoorScAD
set_option linter.unusedVariables false
set_option linter.unusedSimpArgs false
set_option maxHeartbeats 25600000
set_option maxRecDepth 100000
namespace Go.Proofs.YtpkbgkoocijegaaGreatDoor
open Go Go.RowKit Go.Proofs.BerK Go.Proofs.MemK Go.Proofs.UtfK Go.Maps Go.Sort Go.Shelf
def risL (N : List (List UInt8)) : List (List UInt8) := N.mergeSort (fun x y => decide (x <= y))
end Go.Proofs.YtpkbgkoocijegaaGreatDoor
namespace Go.Proofs.YtpkbgkoocijegaaGreatDoor
open Go Go.RowKit Go.Proofs.BerK Go.Proofs.MemK Go.Proofs.UtfK
def atcs (L : List (List UInt8 × Value)) : List Value := L.flatMap fun q => [.string ⟨q.1.toArray⟩, q.2]
theorem atcs_at : ∀ (L : List (List UInt8 × Value)) (i : Nat) (h : i < L.length), (atcs L)[i * 2]? = some (.string ⟨L[i].1.toArray⟩) /\ (atcs L)[i * 2 + 1]? = some L[i].2 := by
 intro L
 induction L with
 | nil => intro i h; simp at h
 | cons c L ih =>
  intro i h
  have e : atcs (c :: L) = .string ⟨c.1.toArray⟩ :: c.2 :: atcs L := rfl
  cases i with
  | zero => rw [e]; exact ⟨rfl, rfl⟩
  | succ i =>
   have := ih i (by simpa using h)
   rw [e, show (i + 1) * 2 = i * 2 + 1 + 1 by omega]
   simpa using this
theorem atAt_blk {w : World} {g : Nat} {A : List Atr} {L : List (List UInt8 × Value)} {e : TypeId} (n c : Nat) (h : w.heap[g]? = some (.cells (atcs L).toArray e (0, 0))) (hl : L.length = A.length) (hx : ∀ i (h1 : i < A.length) (h2 : i < L.length), L[i].1 = A[i].1 /\ TxR w L[i].2 A[i].2) :
  AtAt w (.slice (some ⟨g, 0, none⟩) A.length c) A := by
 refine ⟨_, _, rfl, fun i hi => ?_⟩
 obtain ⟨h1, h2⟩ := atcs_at L i (by omega)
 obtain ⟨x1, x2⟩ := hx i hi (by omega)
 refine ⟨g, 0, L[i].2, rfl, obj_lt h, ?_, ?_, x2⟩
 ·rw [Nat.zero_add, <- x1]; exact obj_cell h _ _ (by simpa using h1)
 ·rw [Nat.zero_add]; exact obj_cell h _ _ (by simpa using h2)
def perA : List Atr := [([111, 98, 106, 101, 99, 116, 67, 108, 97, 115, 115], [[116, 111, 112], [80, 101, 114, 115, 111, 110]]), ([99, 110], [[97]]), ([115, 110], [[98]])]
def perRow (b : Nat) : List (List UInt8 × Value) := [([111, 98, 106, 101, 99, 116, 67, 108, 97, 115, 115], slN b 2), ([99, 110], slN (b + 1) 1), ([115, 110], slN (b + 2) 1)]
def PerPost (w : World) (en : Ending) (w' : World) : Prop := ∃ g b, en = .returned (.agg #[.string ⟨#[99, 110, 61, 97]⟩, .slice (some ⟨g, 0, none⟩) 3 3]) /\ w'.heap[g]? = some (.cells (atcs (perRow b)).toArray 45 (0, 0)) /\ (w.heap.size <= g /\ g = b + 3) /\
 (∀ i (h1 : i < perA.length) (h2 : i < (perRow b).length), (perRow b)[i].1 = perA[i].1 /\ TxR w' (perRow b)[i].2 perA[i].2) /\ AtAt w' (.slice (some ⟨g, 0, none⟩) 3 3) perA /\ Below w.heap.size w w'
def perLs : List (List (List UInt8)) := [[[116, 111, 112], [80, 101, 114, 115, 111, 110]], [[97]], [[98]]]
def perE (w : World) : World := w.alloc (.cells #[.string ⟨#[99, 110, 61, 97]⟩, .slice (some ⟨w.heap.size + 4, 0, none⟩) 3 3] 24)
def perW (w : World) : World := (allocs 9 (perE w) perLs).alloc (.cells (atcs (perRow (w.heap.size + 1))).toArray 45)
theorem perW_facts (w : World) : (perW w).heap[w.heap.size + 4]? = some (.cells (atcs (perRow (w.heap.size + 1))).toArray 45 (0, 0)) /\ (∀ i (h1 : i < perA.length) (h2 : i < (perRow (w.heap.size + 1)).length), (perRow (w.heap.size + 1))[i].1 = perA[i].1 /\ TxR (perW w) (perRow (w.heap.size + 1))[i].2 perA[i].2) /\ AtAt (perW w) (.slice (some ⟨w.heap.size + 4, 0, none⟩) 3 3) perA /\ Below w.heap.size w (perW w) /\ (perW w).cell? ⟨w.heap.size, 0, none⟩ = some (.string ⟨#[99, 110, 61, 97]⟩) /\ (perW w).cell? ⟨w.heap.size, 1, none⟩ = some (.slice (some ⟨w.heap.size + 4, 0, none⟩) 3 3) := by
 have hE : (perE w).heap.size = w.heap.size + 1 := by simp [perE]
 have hbE : Below w.heap.size w (perE w) := (Below.refl _ w).alloc (Nat.le_refl _) _
 have hz := allocs_size 9 perLs (perE w)
 have ha := fun i h => allocs_at 9 perLs (perE w) i h
 have hb := allocs_below 9 perLs (perE w)
 rw [hE] at hz ha hb
 have hx : (perE w).heap[w.heap.size]? = some (.cells #[.string ⟨#[99, 110, 61, 97]⟩, .slice (some ⟨w.heap.size + 4, 0, none⟩) 3 3] 24 (0, 0)) := heap_alloc_new w _
 have hb2 : Below (w.heap.size + 1) (perE w) (perW w) := hb.alloc (by rw [hz]; show w.heap.size + 1 <= w.heap.size + 1 + 3; omega) _
 have hx2 := obj_below hx hb2 (by omega)
 have hbl : Below (allocs 9 (perE w) perLs).heap.size (allocs 9 (perE w) perLs) (perW w) := (Below.refl _ _).alloc (Nat.le_refl _) _
 have hn : (perW w).heap[w.heap.size + 4]? = some (.cells (atcs (perRow (w.heap.size + 1))).toArray 45 (0, 0)) := by
  have := heap_alloc_new (allocs 9 (perE w) perLs) (.cells (atcs (perRow (w.heap.size + 1))).toArray 45)
  rw [hz] at this
  exact this
 have hr : ∀ i (h1 : i < perA.length) (h2 : i < (perRow (w.heap.size + 1)).length), (perRow (w.heap.size + 1))[i].1 = perA[i].1 /\ TxR (perW w) (perRow (w.heap.size + 1))[i].2 perA[i].2 := fun i h1 h2 => by
  match i, h1 with
  | 0, _ => exact ⟨rfl, txR_below (ha 0 (by decide)) hbl⟩
  | 1, _ => exact ⟨rfl, txR_below (ha 1 (by decide)) hbl⟩
  | 2, _ => exact ⟨rfl, txR_below (ha 2 (by decide)) hbl⟩
 exact ⟨hn, hr, atAt_blk (A := perA) 3 3 hn rfl hr, hbE.trans (hb2.mono (by omega)), obj_cell hx2 0 _ rfl, obj_cell hx2 1 _ rfl⟩
theorem person_any (w : World) : Calls Tryz.prog 30 #[] w (PerPost w) := by
 have HF := Hy (perW_facts w)
 go_enter Tryz.func30, Tryz.ntmps30
 go_wp2
 have c0 := HF.out.2.2.2.2.1
 have c1 := HF.out.2.2.2.2.2
 change bodyPost _ _ _ _ _ (perW w)
 obtain ⟨W, hW⟩ : ∃ W, perW w = W := ⟨_, rfl⟩
 rw [hW] at c0 c1 HF ⊢
 clear hW
 refine bodyPost_ret (v := .agg #[.string ⟨#[99, 110, 61, 97]⟩, .slice (some ⟨w.heap.size + 4, 0, none⟩) 3 3]) (by simp [results, Tryz.results30, go_sem, *]) rfl ?_
 exact ⟨_, _, rfl, HF.out.1, by omega, HF.out.2.1, HF.out.2.2.1, HF.out.2.2.2.1⟩
theorem plT_lowT : LowT plT := by have := lowT_map plT; rwa [plT_low] at this
theorem Tryz.sninfo45 : (Tryz.prog.info? 45).map (fun i => (i.zero, i.size, i.bytes)) = some (some (.agg #[.string ByteArray.empty, .slice none 0 0]), 2, 40) := by kernel_rfl
end Go.Proofs.YtpkbgkoocijegaaGreatDoor
