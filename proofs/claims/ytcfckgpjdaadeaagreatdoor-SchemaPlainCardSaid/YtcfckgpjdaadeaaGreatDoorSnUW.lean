/- The code's Types: the names of a schema's types, rising. The law's own person. The law's own given values come out as said. -/
import Derived.Test.YtcfckgpjdaadeaaGreatDoorLayz
import Derived.Test.YtcfckgpjdaadeaaGreatDoorSnGI
import Derived.Test.YtcfckgpjdaadeaaGreatDoorSnAB
import Derived.Sort.KeysCollected
import Derived.Test.YtcfckgpjdaadeaaGreatDoorSnJK
import Derived.Test.YtcfckgpjdaadeaaGreatDoorSnT
namespace Go.Proofs.YtcfckgpjdaadeaaGreatDoor
set_option linter.unusedSimpArgs false
set_option linter.unusedVariables false
open Go Go.RowKit Go.Proofs.BerK Go.Proofs.MemK Go.Proofs.UtfK Go.Maps Go.Sort Go.Shelf

/-- slices.Sort's two contracts at this program. -/
theorem sorts_z (m : Nat) : AnyZ.SortsIn Tryz.prog Tryz.sortedZ_ren Fence.wide m :=
  ⟨fun blk off cap ss W hH hblk hsz => callsIn_wide.2 (AnyM.slices_Sort_string Tryz.sortZ blk off cap ss W hH hblk hsz),
   fun p cap W => callsIn_wide.2 (AnyM.slices_Sort_string_none Tryz.sortZ p cap W)⟩
theorem keys_z (mb : Option Nat) (W : World) : Calls Tryz.prog 54 #[.map mb] W (fun e w' => e = .returned (.func (.func 83) #[] #[.pointer (some ⟨W.heap.size, 0, none⟩)]) ∧ w' = W.alloc (.cells #[.map mb] 69)) :=
  callsIn_wide.1 (AnyZ.keys_in Tryz.keysZ Fence.wide 5 trivial rfl mb W)
set_option maxHeartbeats 1000000 in
theorem sorted_z {H : Type} (b nn : Nat) (D0 : DataW H) (R : Value → Option (DataW H × List MemPlace)) (w : World) (hown : w.ownsMap Tryz.prog 9 R b nn D0) (hmax : Maps.size D0 ≤ maxLen) (hbytes : Maps.size D0 * 16 ≤ 140737488355328) :
    Calls Tryz.prog 53 #[.func (.func 83) #[] #[.pointer (some ⟨w.heap.size, 0, none⟩)]] (w.alloc (.cells #[.map (some b)] 69)) (fun e w' => ∃ (v : Value) (ss : List (List UInt8)), e = .returned v ∧ ss.Perm (strKeys D0) ∧
      w'.ownsRow (w.alloc (.cells #[.map (some b)] 69)).heap.size 9 1 v ss.length ((ss.mergeSort (fun x y => decide (x ≤ y))).map encStr) ∧ (v = .slice none 0 0 ↔ ss = []) ∧ Below (w.alloc (.cells #[.map (some b)] 69)).heap.size (w.alloc (.cells #[.map (some b)] 69)) w') := by
  have hbl := hown.lt
  have hseq : SeqGives Fence.wide 2 Tryz.prog 83 #[.pointer (some ⟨w.heap.size, 0, none⟩)] encStr (fun ss => ss.Perm (strKeys D0)) (Maps.size D0) (w.alloc (.cells #[.map (some b)] 69)) :=
    AnyZ.keys_gives (ρ := Tryz.keysZ_ren) { Tryz.keysZ with } Fence.wide _ trivial rfl (by omega) w.heap.size b nn D0 _ (by simp) (by simp) (by
      obtain ⟨es, clock, hb, Ft, hs, hD⟩ := hown
      exact ⟨es, clock, (Below.heap_alloc _ _ b hbl).trans hb, Ft, hs, hD⟩)
  exact callsIn_wide.1 (AnyZ.sorted_in Tryz.sortedZ Fence.wide 5 trivial trivial trivial trivial rfl (by omega) (sorts_z _) (enters_of Tryz.func82 (by kernel_rfl) rfl) 83 #[.pointer (some ⟨w.heap.size, 0, none⟩)] trivial (enters_of Tryz.func83 (by kernel_rfl) rfl) _ _ hmax hbytes _ hseq)
/-- Names, rising. -/
def risL (N : List (List UInt8)) : List (List UInt8) := N.mergeSort (fun x y => decide (x ≤ y))
def RisPost (L : List (List UInt8)) (w : World) (en : Ending) (w' : World) : Prop := ∃ a c, en = .returned (.slice a L.length c) ∧ TxR w' (.slice a L.length c) L ∧ Below w.heap.size w w'
theorem stypes_nil (w : World) : Calls Tryz.prog 19 #[.pointer none] w (RisPost [] w) := by
  go_enter Tryz.func19, Tryz.ntmps19
  go_wp2
  go_ret
  exact ⟨none, 0, rfl, txR_nil _ _ _, Below.refl _ _⟩
set_option maxHeartbeats 1000000 in
set_option maxRecDepth 100000 in
theorem stypes_any (g : Nat) (T : List Ty) (C : List Cl) (w : World) (h : ScAt w g T C) (hT : 0 < T.length) (hl : T.length ≤ 1024) (hnd : (T.map (·.1)).Nodup) :
    Calls Tryz.prog 19 #[.pointer (some ⟨g, 0, none⟩)] w (RisPost (risL (T.map (·.1))) w) := by
  obtain ⟨m1, a1, n1, c1, m2, a2, n2, c2, h1, h2, _⟩ := h
  obtain ⟨N, hN⟩ : ∃ N, T.map (·.1) = N := ⟨_, rfl⟩
  have hNl : N.length = T.length := by rw [← hN]; simp
  rw [hN] at h2 hnd ⊢
  obtain ⟨b, D, rfl, hown, hD⟩ : ∃ b D, m1 = .map (some b) ∧ w.ownsMap Tryz.prog 9 (plainElem (H := Unit) Tryz.prog 3) b N.length D ∧ NmIs D N := by
    rcases h2 with ⟨_, e⟩ | h2
    · rw [e] at hNl; simp at hNl; omega
    · exact h2
  have hp : N.Perm (strKeys D) := by
    obtain ⟨es, hDe, hpw, _⟩ := hown.entries snlaw
    obtain ⟨es', hD', hko⟩ := hown.keysOf
    obtain rfl : es = es' := by rw [hDe] at hD'; simpa using hD'
    subst hDe
    refine perm_strKeys hpw (fun p hp => by obtain ⟨v, hv⟩ := hko p hp; obtain ⟨x, _, hx, _⟩ := Maps.keyOf_str Tryz.underlying9 hv; exact ⟨x, hx⟩) hnd (fun x => ?_)
    rw [hD.1 x, ix_isSome]
    unfold inL
    simp
  have hsz : Maps.size D = N.length := hD.2.2
  have HS := Lib.hid (sorted_z b N.length D _ w hown (by rw [hsz]; unfold maxLen; omega) (by rw [hsz]; omega))
  have HP := Lib.hid hp
  have p0 := (obj4 h1).1
  clear h1 h2 hown hD hp hsz
  go_enter Tryz.func19, Tryz.ntmps19
  go_wp2_with fail
  refine (keys_z _ _).mono ?_
  rintro en w1 ⟨rfl, rfl⟩
  go_wp2_with fail
  refine HS.out.mono ?_
  rintro en w2 ⟨v, ss, rfl, hss, hrow, hnil, hb⟩
  obtain ⟨va, vc, rfl⟩ := ownsRow_slice hrow
  have H := Lib.hid (And.intro hss (And.intro hrow hb))
  clear hss hrow hnil hb
  go_wp2
  go_ret
  have e : ss.mergeSort (fun x y => decide (x ≤ y)) = risL N := by
    unfold risL
    exact mergeSort_of_perm (H.out.1.trans HP.out.symm)
  have hr := H.out.2.1
  rw [e] at hr
  have hl2 : ss.length = (risL N).length := by rw [← e, List.length_mergeSort]
  rw [hl2] at hr ⊢
  exact ⟨va, vc, rfl, txR_owns hr, ((Below.refl _ w).alloc (Nat.le_refl _) _).trans (H.out.2.2.mono (by simp))⟩
end Go.Proofs.YtcfckgpjdaadeaaGreatDoor
namespace Go.Proofs.YtcfckgpjdaadeaaGreatDoor
set_option linter.unusedSimpArgs false
set_option linter.unusedVariables false
open Go Go.RowKit Go.Proofs.BerK Go.Proofs.MemK Go.Proofs.UtfK

/-- Attributes as cells: each with the value of its list. -/
def atcs (L : List (List UInt8 × Value)) : List Value := L.flatMap fun q => [.string ⟨q.1.toArray⟩, q.2]
theorem atcs_at : ∀ (L : List (List UInt8 × Value)) (i : Nat) (h : i < L.length), (atcs L)[i * 2]? = some (.string ⟨L[i].1.toArray⟩) ∧ (atcs L)[i * 2 + 1]? = some L[i].2 := by
  intro L
  induction L with
  | nil => intro i h; simp at h
  | cons c L ih =>
    intro i h
    have e : atcs (c :: L) = .string ⟨c.1.toArray⟩ :: c.2 :: atcs L := rfl
    cases i with
    | zero => rw [e]; exact ⟨rfl, rfl⟩
    | succ i =>
      have := ih i (by simpa using h)
      rw [e, show (i + 1) * 2 = i * 2 + 1 + 1 by omega]
      simpa using this
theorem atAt_blk {w : World} {g : Nat} {A : List Atr} {L : List (List UInt8 × Value)} {e : TypeId} (n c : Nat) (h : w.heap[g]? = some (.cells (atcs L).toArray e (0, 0))) (hl : L.length = A.length) (hx : ∀ i (h1 : i < A.length) (h2 : i < L.length), L[i].1 = A[i].1 ∧ TxR w L[i].2 A[i].2) :
    AtAt w (.slice (some ⟨g, 0, none⟩) A.length c) A := by
  refine ⟨_, _, rfl, fun i hi => ?_⟩
  obtain ⟨h1, h2⟩ := atcs_at L i (by omega)
  obtain ⟨x1, x2⟩ := hx i hi (by omega)
  refine ⟨g, 0, L[i].2, rfl, obj_lt h, ?_, ?_, x2⟩
  · rw [Nat.zero_add, ← x1]; exact obj_cell h _ _ (by simpa using h1)
  · rw [Nat.zero_add]; exact obj_cell h _ _ (by simpa using h2)
def perA : List Atr := [([111, 98, 106, 101, 99, 116, 67, 108, 97, 115, 115], [[116, 111, 112], [80, 101, 114, 115, 111, 110]]), ([99, 110], [[97]]), ([115, 110], [[98]])]
def perRow (b : Nat) : List (List UInt8 × Value) := [([111, 98, 106, 101, 99, 116, 67, 108, 97, 115, 115], slN b 2), ([99, 110], slN (b + 1) 1), ([115, 110], slN (b + 2) 1)]
def PerPost (w : World) (en : Ending) (w' : World) : Prop := ∃ g b, en = .returned (.agg #[.string ⟨#[99, 110, 61, 97]⟩, .slice (some ⟨g, 0, none⟩) 3 3]) ∧ w'.heap[g]? = some (.cells (atcs (perRow b)).toArray 63 (0, 0)) ∧ (w.heap.size ≤ g ∧ g = b + 3) ∧
  (∀ i (h1 : i < perA.length) (h2 : i < (perRow b).length), (perRow b)[i].1 = perA[i].1 ∧ TxR w' (perRow b)[i].2 perA[i].2) ∧ AtAt w' (.slice (some ⟨g, 0, none⟩) 3 3) perA ∧ Below w.heap.size w w'
def perLs : List (List (List UInt8)) := [[[116, 111, 112], [80, 101, 114, 115, 111, 110]], [[97]], [[98]]]
def perE (w : World) : World := w.alloc (.cells #[.string ⟨#[99, 110, 61, 97]⟩, .slice (some ⟨w.heap.size + 4, 0, none⟩) 3 3] 24)
def perW (w : World) : World := (allocs 9 (perE w) perLs).alloc (.cells (atcs (perRow (w.heap.size + 1))).toArray 63)
theorem perW_facts (w : World) : (perW w).heap[w.heap.size + 4]? = some (.cells (atcs (perRow (w.heap.size + 1))).toArray 63 (0, 0)) ∧ (∀ i (h1 : i < perA.length) (h2 : i < (perRow (w.heap.size + 1)).length), (perRow (w.heap.size + 1))[i].1 = perA[i].1 ∧ TxR (perW w) (perRow (w.heap.size + 1))[i].2 perA[i].2) ∧ AtAt (perW w) (.slice (some ⟨w.heap.size + 4, 0, none⟩) 3 3) perA ∧ Below w.heap.size w (perW w) ∧ (perW w).cell? ⟨w.heap.size, 0, none⟩ = some (.string ⟨#[99, 110, 61, 97]⟩) ∧ (perW w).cell? ⟨w.heap.size, 1, none⟩ = some (.slice (some ⟨w.heap.size + 4, 0, none⟩) 3 3) := by
  have hE : (perE w).heap.size = w.heap.size + 1 := by simp [perE]
  have hbE : Below w.heap.size w (perE w) := (Below.refl _ w).alloc (Nat.le_refl _) _
  have hz := allocs_size 9 perLs (perE w)
  have ha := fun i h => allocs_at 9 perLs (perE w) i h
  have hb := allocs_below 9 perLs (perE w)
  rw [hE] at hz ha hb
  have hx : (perE w).heap[w.heap.size]? = some (.cells #[.string ⟨#[99, 110, 61, 97]⟩, .slice (some ⟨w.heap.size + 4, 0, none⟩) 3 3] 24 (0, 0)) := heap_alloc_new w _
  have hb2 : Below (w.heap.size + 1) (perE w) (perW w) := hb.alloc (by rw [hz]; show w.heap.size + 1 ≤ w.heap.size + 1 + 3; omega) _
  have hx2 := obj_below hx hb2 (by omega)
  have hbl : Below (allocs 9 (perE w) perLs).heap.size (allocs 9 (perE w) perLs) (perW w) := (Below.refl _ _).alloc (Nat.le_refl _) _
  have hn : (perW w).heap[w.heap.size + 4]? = some (.cells (atcs (perRow (w.heap.size + 1))).toArray 63 (0, 0)) := by
    have := heap_alloc_new (allocs 9 (perE w) perLs) (.cells (atcs (perRow (w.heap.size + 1))).toArray 63)
    rw [hz] at this
    exact this
  have hr : ∀ i (h1 : i < perA.length) (h2 : i < (perRow (w.heap.size + 1)).length), (perRow (w.heap.size + 1))[i].1 = perA[i].1 ∧ TxR (perW w) (perRow (w.heap.size + 1))[i].2 perA[i].2 := fun i h1 h2 => by
    match i, h1 with
    | 0, _ => exact ⟨rfl, txR_below (ha 0 (by decide)) hbl⟩
    | 1, _ => exact ⟨rfl, txR_below (ha 1 (by decide)) hbl⟩
    | 2, _ => exact ⟨rfl, txR_below (ha 2 (by decide)) hbl⟩
  exact ⟨hn, hr, atAt_blk (A := perA) 3 3 hn rfl hr, hbE.trans (hb2.mono (by omega)), obj_cell hx2 0 _ rfl, obj_cell hx2 1 _ rfl⟩
set_option maxHeartbeats 1600000 in
set_option maxRecDepth 100000 in
theorem person_any (w : World) : Calls Tryz.prog 33 #[] w (PerPost w) := by
  have HF := Lib.hid (perW_facts w)
  go_enter Tryz.func33, Tryz.ntmps33
  go_wp2
  have c0 := HF.out.2.2.2.2.1
  have c1 := HF.out.2.2.2.2.2
  change bodyPost _ _ _ _ _ (perW w)
  obtain ⟨W, hW⟩ : ∃ W, perW w = W := ⟨_, rfl⟩
  rw [hW] at c0 c1 HF ⊢
  clear hW
  refine bodyPost_ret (v := .agg #[.string ⟨#[99, 110, 61, 97]⟩, .slice (some ⟨w.heap.size + 4, 0, none⟩) 3 3]) (by simp [results, Tryz.results33, go_sem, *]) rfl ?_
  exact ⟨_, _, rfl, HF.out.1, by omega, HF.out.2.1, HF.out.2.2.1, HF.out.2.2.2.1⟩
end Go.Proofs.YtcfckgpjdaadeaaGreatDoor
namespace Go.Proofs.YtcfckgpjdaadeaaGreatDoor
set_option linter.unusedSimpArgs false
set_option linter.unusedVariables false
open Go Go.RowKit Go.Proofs.BerK Go.Proofs.MemK Go.Proofs.UtfK

theorem aw_1 : scT plT [85, 73, 68, 78, 117, 109, 98, 101, 114] = some ([117, 105, 100, 110, 117, 109, 98, 101, 114], 3, true) := by decide +kernel
theorem aw_2 : scC plC [68, 111, 109, 97, 105, 110] = some ([100, 111, 109, 97, 105, 110], [[100, 99]], [[100, 101, 115, 99, 114, 105, 112, 116, 105, 111, 110], [111]]) := by decide +kernel
theorem aw_3 : chkS plT plC perA = 0 := by decide +kernel
theorem aw_4 : chkS plT plC (perA.take 2) = 65 := by decide +kernel
def yA : List Atr := perA ++ [([117, 105, 100, 78, 117, 109, 98, 101, 114], [[120]])]
theorem aw_5 : chkS plT plC yA = 21 := by decide +kernel
theorem aw_6 : scNw [] [] = 8 := by decide +kernel
def twoT : List Ty := [([97], 1, false), ([65], 1, false)]
theorem aw_7 : scNw twoT [] = 9 := by decide +kernel
theorem aw_8 : (risL (plT.map (·.1))).length = 13 := by unfold risL; rw [List.length_mergeSort]; decide +kernel
theorem plT_lowT : LowT plT := by have := lowT_map plT; rwa [plT_low] at this
theorem plC_lowC : LowC plC := by have := lowC_map plC; rwa [plC_low] at this
theorem plT_nodup : (plT.map (·.1)).Nodup := by decide +kernel
theorem atAt_take {w : World} {g : Nat} {n c : Nat} {A : List Atr} (h : AtAt w (.slice (some ⟨g, 0, none⟩) n c) A) (k : Nat) (hk : k ≤ A.length) : AtAt w (.slice (some ⟨g, 0, none⟩) k c) (A.take k) := by
  obtain ⟨a, c', e, h⟩ := h
  injection e with e1 e2 e3
  subst e1 e3
  refine ⟨_, _, by rw [List.length_take, Nat.min_eq_left hk], fun i hi => ?_⟩
  have hi2 : i < A.length := by rw [List.length_take] at hi; omega
  obtain ⟨g', o, vl, h1, h2, h3, h4, h5⟩ := h i hi2
  rw [List.getElem_take]
  exact ⟨g', o, vl, h1, h2, h3, h4, h5⟩
theorem atAt_owns {w : World} {B : Nat} {v : Value} {A : List Atr} {L : List (List UInt8 × Value)} (h : w.ownsRow B 63 2 v A.length (atcs L)) (hl : L.length = A.length) (hx : ∀ i (h1 : i < A.length) (h2 : i < L.length), L[i].1 = A[i].1 ∧ TxR w L[i].2 A[i].2) : AtAt w v A := by
  rcases h.2 with ⟨rfl, h0⟩ | ⟨g, cap, cur, rfl, _, hg, _⟩
  · exact ⟨none, 0, by rw [h0], fun i hi => by omega⟩
  · refine ⟨_, cap, rfl, fun i hi => ?_⟩
    obtain ⟨h1, h2⟩ := atcs_at L i (by omega)
    obtain ⟨x1, x2⟩ := hx i hi (by omega)
    refine ⟨g, 0, L[i].2, rfl, (Array.getElem?_eq_some_iff.1 hg).1, ?_, ?_, x2⟩
    · rw [Nat.zero_add, ← x1]; exact (h.cellAt _ (by omega)).trans h1
    · rw [Nat.zero_add]; exact (h.cellAt _ (by omega)).trans h2
theorem Tryz.sninfo63 : (Tryz.prog.info? 63).map (fun i => (i.zero, i.size, i.bytes)) = some (some (.agg #[.string ByteArray.empty, .slice none 0 0]), 2, 40) := by kernel_rfl
theorem owns_full {w : World} {B g n size : Nat} {e : TypeId} {xs : List Value} (h : w.heap[g]? = some (.cells xs.toArray e (0, 0))) (hB : B ≤ g) (hl : xs.length = n * size) (hm : n ≤ maxLen) : w.ownsRow B e size (.slice (some ⟨g, 0, none⟩) n n) n xs :=
  ⟨hl, .inr ⟨g, n, xs.toArray, rfl, hB, h, Nat.le_refl _, hm, by simpa using hl, by simp [← hl]⟩⟩
set_option maxHeartbeats 12800000 in
set_option maxRecDepth 100000 in
theorem scawake_any (w : World) (he : ErrOk w) : Calls Tryz.prog 9 #[] w (BB true w) := by
  have hst : ∀ w : World, (binOp .eql 35 (.agg #[.string ⟨#[117, 105, 100, 110, 117, 109, 98, 101, 114]⟩, .int .i64 3, .bool true]) (.agg #[.string ⟨#[117, 105, 100, 110, 117, 109, 98, 101, 114]⟩, .int .i64 3, .bool true])).run Tryz.prog w = .ok (.bool true) w := fun w => by kernel_rfl
  have HC := Lib.hid (fun A (v : Value) (g : Nat) w' (hb : Below w.heap.size w w') (hs : ScAt w' g plT plC) (hA : AtAt w' v A) hl hv => scheck_any g plT plC A ⟨#[99, 110, 61, 97]⟩ v w' hs plT_lowT plC_lowC (by decide +kernel) (by decide +kernel) hA hl hv (by decide +kernel) (by decide +kernel) (errOk_below he hb))
  have HST := Lib.hid hst
  clear he hst
  go_enter Tryz.func9, Tryz.ntmps9
  go_wp2_with fail
  refine (plain_any w).mono ?_
  rintro en w1 ⟨g, rfl, hs, hb⟩
  have H1 := Lib.hid (And.intro hs hb)
  have hTy := stype_any g plT plC [85, 73, 68, 78, 117, 109, 98, 101, 114] w1 hs plT_lowT (by decide) (by decide +kernel)
  rw [aw_1] at hTy
  have HTy := Lib.hid (show Calls Tryz.prog 12 #[.pointer (some ⟨g, 0, none⟩), .string ⟨#[85, 73, 68, 78, 117, 109, 98, 101, 114]⟩] w1 (fun en w' => en = .returned (.tuple #[.agg #[.string ⟨#[117, 105, 100, 110, 117, 109, 98, 101, 114]⟩, .int .i64 3, .bool true], .bool true]) ∧ Below w1.heap.size w1 w') from hTy)
  clear hs hb hTy
  go_wp2_with fail
  refine HTy.out.mono ?_
  rintro en w2 ⟨rfl, hb⟩
  obtain ⟨W2, hW2⟩ : ∃ W2, w2.alloc (.cells #[.string ⟨#[117, 105, 100, 110, 117, 109, 98, 101, 114]⟩, .int .i64 3, .bool true] 35) = W2 := ⟨_, rfl⟩
  have y2 : W2.heap[w2.heap.size]? = some (.cells #[.string ⟨#[117, 105, 100, 110, 117, 109, 98, 101, 114]⟩, .int .i64 3, .bool true] 35 (0, 0)) := by rw [← hW2]; exact heap_alloc_new w2 _
  have hb2 : Below w1.heap.size w1 W2 := by rw [← hW2]; exact hb.alloc hb.size _
  have H2 := Lib.hid (And.intro (scAt_below H1.out.1 hb2) (And.intro (H1.out.2.trans (hb2.mono H1.out.2.size)) y2))
  have HW2 := Lib.hid hW2
  have hCl := sclass_any g plT plC [68, 111, 109, 97, 105, 110] W2 (scAt_below H1.out.1 hb2) plC_lowC (by decide) (by decide +kernel) (by decide +kernel)
  rw [aw_2] at hCl
  have HCl := Lib.hid (hCl.mono (R' := fun en w' => ∃ am cm ay cy, en = .returned (.tuple #[.agg #[.string ⟨#[100, 111, 109, 97, 105, 110]⟩, .slice am 1 cm, .slice ay 2 cy], .bool true]) ∧ Below W2.heap.size W2 w') (fun en w' h => by
    rcases h with ⟨h, _⟩ | ⟨c, hc, am, cm, ay, cy, h1, _, _, h2⟩
    · cases h
    · injection hc with hc
      subst hc
      exact ⟨am, cm, ay, cy, h1, h2⟩))
  clear hb hW2 y2 hb2 hCl
  go_wp2_with fail
  rw [HW2.out]
  refine HCl.out.mono ?_
  rintro en w3 ⟨am, cm, ay, cy, rfl, hb⟩
  obtain ⟨W3, hW3⟩ : ∃ W3, w3.alloc (.cells #[.string ⟨#[100, 111, 109, 97, 105, 110]⟩, .slice am 1 cm, .slice ay 2 cy] 40) = W3 := ⟨_, rfl⟩
  have y3 : W3.heap[w3.heap.size]? = some (.cells #[.string ⟨#[100, 111, 109, 97, 105, 110]⟩, .slice am 1 cm, .slice ay 2 cy] 40 (0, 0)) := by rw [← hW3]; exact heap_alloc_new w3 _
  have hb3 : Below W2.heap.size W2 W3 := by rw [← hW3]; exact hb.alloc hb.size _
  have H3 := Lib.hid (And.intro (scAt_below H2.out.1 hb3) (And.intro (H2.out.2.1.trans (hb3.mono H2.out.2.1.size)) (And.intro (obj_below H2.out.2.2 hb3 (obj_lt H2.out.2.2)) y3)))
  have HW3 := Lib.hid hW3
  clear hb hW3 y3 hb3
  go_wp2_with fail
  rw [HW3.out]
  refine (person_any W3).mono ?_
  rintro en w4 ⟨g4, b4, rfl, hu1, hu2, hu3, hat4, hb⟩
  clear hu1 hu2 hu3
  have hx2 := atAt_take hat4 2 (by decide)
  have H4 := Lib.hid (And.intro (scAt_below H3.out.1 hb) (And.intro (H3.out.2.1.trans (hb.mono H3.out.2.1.size)) (And.intro (obj_below H3.out.2.2.1 hb (obj_lt H3.out.2.2.1)) (And.intro (obj_below H3.out.2.2.2 hb (obj_lt H3.out.2.2.2)) hx2))))
  clear hat4 hb hx2
  obtain ⟨W4, hW4⟩ : ∃ W4, w4.alloc (.cells #[.string ⟨#[99, 110, 61, 97]⟩, .slice (some ⟨g4, 0, none⟩) 2 3] 24) = W4 := ⟨_, rfl⟩
  have y4 : W4.heap[w4.heap.size]? = some (.cells #[.string ⟨#[99, 110, 61, 97]⟩, .slice (some ⟨g4, 0, none⟩) 2 3] 24 (0, 0)) := by rw [← hW4]; exact heap_alloc_new w4 _
  have hb4 : Below w4.heap.size w4 W4 := by rw [← hW4]; exact (Below.refl _ w4).alloc (Nat.le_refl _) _
  have HN1 := Lib.hid ((snew_any [] [] (.slice none 0 0) (.slice none 0 0) W4 ⟨_, _, rfl, fun i h => by simp at h⟩ ⟨_, _, rfl, fun i h => by simp at h⟩ (by simp) (by simp) (by simp) (by simp)).mono (R' := fun en w' => en = .returned (.tuple #[.pointer none, .int .i64 8]) ∧ Below W4.heap.size W4 w') (fun en w' h => ⟨by have := h.1 (by rw [aw_6]; decide); rw [aw_6] at this; exact this, h.2.2⟩))
  have H5 := Lib.hid (And.intro (scAt_below H4.out.1 hb4) (And.intro (H4.out.2.1.trans (hb4.mono H4.out.2.1.size)) (And.intro (obj_below H4.out.2.2.1 hb4 (obj_lt H4.out.2.2.1)) (And.intro (obj_below H4.out.2.2.2.1 hb4 (obj_lt H4.out.2.2.2.1)) (And.intro y4 (atAt_below H4.out.2.2.2.2 hb4))))))
  have HW4 := Lib.hid hW4
  clear hW4 y4 hb4
  go_wp2_with fail
  rw [HW4.out]
  refine HN1.out.mono ?_
  rintro en w5 ⟨rfl, hb⟩
  obtain ⟨W5, hW5⟩ : ∃ W5, w5.alloc (.cells (tycs twoT).toArray 35) = W5 := ⟨_, rfl⟩
  have ht5 : TyAt W5 (.slice (some ⟨w5.heap.size, 0, none⟩) 2 2) twoT := by rw [← hW5]; exact tyAt_new w5 twoT _
  have hb5 : Below W4.heap.size W4 W5 := by rw [← hW5]; exact hb.alloc hb.size _
  have HN2 := Lib.hid ((snew_any twoT [] _ (.slice none 0 0) W5 ht5 ⟨_, _, rfl, fun i h => by simp at h⟩ (by decide) (by simp) (by simp) (by simp)).mono (R' := fun en w' => en = .returned (.tuple #[.pointer none, .int .i64 9]) ∧ Below W5.heap.size W5 w') (fun en w' h => ⟨by have := h.1 (by rw [aw_7]; decide); rw [aw_7] at this; exact this, h.2.2⟩))
  have H6 := Lib.hid (And.intro (scAt_below H5.out.1 hb5) (And.intro (H5.out.2.1.trans (hb5.mono H5.out.2.1.size)) (And.intro (obj_below H5.out.2.2.1 hb5 (obj_lt H5.out.2.2.1)) (And.intro (obj_below H5.out.2.2.2.1 hb5 (obj_lt H5.out.2.2.2.1)) (And.intro (obj_below H5.out.2.2.2.2.1 hb5 (obj_lt H5.out.2.2.2.2.1)) (atAt_below H5.out.2.2.2.2.2 hb5))))))
  have HW5 := Lib.hid (show w5.alloc (.cells #[.string ⟨#[97]⟩, .int .i64 1, .bool false, .string ⟨#[65]⟩, .int .i64 1, .bool false] 35) = W5 from hW5)
  clear hb hW5 ht5 hb5
  go_wp2_with fail
  rw [HW5.out]
  refine HN2.out.mono ?_
  rintro en w6 ⟨rfl, hb⟩
  have H7 := Lib.hid (And.intro (scAt_below H6.out.1 hb) (And.intro (H6.out.2.1.trans (hb.mono H6.out.2.1.size)) (And.intro (obj_below H6.out.2.2.1 hb (obj_lt H6.out.2.2.1)) (And.intro (obj_below H6.out.2.2.2.1 hb (obj_lt H6.out.2.2.2.1)) (And.intro (obj_below H6.out.2.2.2.2.1 hb (obj_lt H6.out.2.2.2.2.1)) (atAt_below H6.out.2.2.2.2.2 hb))))))
  clear hb
  go_wp2_with fail
  refine (person_any w6).mono ?_
  rintro en w7 ⟨g7, b7, rfl, hblk, hgb, hrow, hu1, hb⟩
  clear hu1
  obtain ⟨W7, hW7⟩ : ∃ W7, w7.alloc (.cells #[.string ⟨#[99, 110, 61, 97]⟩, .slice (some ⟨g7, 0, none⟩) 3 3] 24) = W7 := ⟨_, rfl⟩
  have y7 : W7.heap[w7.heap.size]? = some (.cells #[.string ⟨#[99, 110, 61, 97]⟩, .slice (some ⟨g7, 0, none⟩) 3 3] 24 (0, 0)) := by rw [← hW7]; exact heap_alloc_new w7 _
  have hb7 : Below w7.heap.size w7 W7 := by rw [← hW7]; exact (Below.refl _ w7).alloc (Nat.le_refl _) _
  have hg7 := obj_lt hblk
  have hs67 := hb.size
  have hz7 : w7.heap.size < W7.heap.size := obj_lt y7
  obtain ⟨W8, hW8⟩ : ∃ W8, W7.alloc (.cells (sc [[120]]).toArray 9) = W8 := ⟨_, rfl⟩
  have hb8 : Below W7.heap.size W7 W8 := by rw [← hW8]; exact (Below.refl _ W7).alloc (Nat.le_refl _) _
  have tx8 : TxR W8 (.slice (some ⟨W7.heap.size, 0, none⟩) 1 1) [[120]] := by rw [← hW8]; exact txR_new W7 [[120]] _
  have hb78 := hb7.trans (hb8.mono hb7.size)
  have hown : W8.ownsRow w6.heap.size 63 2 (.slice (some ⟨g7, 0, none⟩) 3 3) 3 (atcs (perRow b7)) := owns_full (obj_below hblk hb78 hg7) hgb.1 rfl (by unfold maxLen; omega)
  have hbw8 := hb.trans (hb78.mono hb.size)
  have HBW8 := Lib.hid hbw8
  have hz8 : W7.heap.size < W8.heap.size := by rw [← hW8]; simp
  have hsz7 : W7.heap.size = w7.heap.size + 1 := by rw [← hW7]; simp
  have hsz8 : W8.heap.size = w7.heap.size + 1 + 1 := by rw [← hW8]; simp [hsz7]
  rw [hsz7] at tx8
  have HSZ := Lib.hid hsz8
  have hs68 : w6.heap.size ≤ W8.heap.size := by omega
  have H8 := Lib.hid (And.intro (scAt_below H7.out.1 hbw8) (And.intro (H7.out.2.1.trans (hbw8.mono H7.out.2.1.size)) (And.intro (obj_below H7.out.2.2.1 hbw8 (obj_lt H7.out.2.2.1)) (And.intro (obj_below H7.out.2.2.2.1 hbw8 (obj_lt H7.out.2.2.2.1)) (And.intro (obj_below H7.out.2.2.2.2.1 hbw8 (obj_lt H7.out.2.2.2.2.1)) (atAt_below H7.out.2.2.2.2.2 hbw8))))))
  have HR8 := Lib.hid (And.intro hown (And.intro (obj_below y7 hb8 hz7) (And.intro tx8 (And.intro hgb (fun i h1 h2 => And.intro (hrow i h1 h2).1 (txR_below (hrow i h1 h2).2 hb78))))))
  have HW7 := Lib.hid hW7
  have HW8 := Lib.hid (show W7.alloc (.cells #[.string ⟨#[120]⟩] 9) = W8 from hW8)
  have q7 := obj_cell y7 1 _ rfl
  clear hblk hgb hrow hb hW7 hb7 hW8 hb8 tx8 hb78 hown hbw8 hsz7 hsz8
  have k2 := obj_lt H7.out.2.2.1
  have k3 := obj_lt H7.out.2.2.2.1
  have k4 := obj_lt H7.out.2.2.2.2.1
  have hst := HST.out
  go_wp2_with (at_builtin; rw [HW7.out, HW8.out]; refine wpList_pushc rfl (.tmp 43) (.tmp 46) 22 63 rfl w6.heap.size 2 40 _ Tryz.sninfo63 Tryz.underlying22 rfl (by decide) [_, _] rfl (by intro u hu; simp at hu; rcases hu with rfl | rfl <;> rfl) (.slice (some ⟨g7, 0, none⟩) 3 3) 3 (atcs (perRow b7)) rfl _ rfl HSZ.out.symm HR8.out.1 (by unfold maxLen; omega) (by omega) hs68 ?_; intro v' w' h1 h2 h3; obtain ⟨na, nc, rfl⟩ := ownsRow_slice h1; have g9 := obj_chg HR8.out.2.1 h2 (fun e => by injection e with e; have e : w7.heap.size = g7 := e; omega); have q1 := obj_free g9 1; have q2 := obj_cell g9 1 _ rfl; have hbw9 := HBW8.out.trans (h2.toBelow hs68 (fun k _ hk => by injection hk with hk; have hk : k = g7 := hk; have := HR8.out.2.2.2.1.1; omega)); obtain ⟨t0, t1, t2⟩ := obj3 (obj_below H7.out.2.2.1 hbw9 k2); obtain ⟨u0, u1, u2⟩ := obj3 (obj_below H7.out.2.2.2.1 hbw9 k3))
  have g10 := obj_set g9 1 (.slice na 4 nc)
  have chS : Chg (fun k => k = w7.heap.size) w' (w'.setCell ⟨w7.heap.size, 1, none⟩ (.slice na 4 nc)) := (Chg.refl (fun k => k = w7.heap.size) w').setCell (p := ⟨w7.heap.size, 1, none⟩) (fun _ => rfl) _
  have hbw10 : Below w6.heap.size w6 (w'.setCell ⟨w7.heap.size, 1, none⟩ (.slice na 4 nc)) := hbw9.setCell (p := ⟨w7.heap.size, 1, none⟩) hs67 _
  have hrow10 := ownsRow_chg h1 chS (fun j hj e => by
    have e : j = w7.heap.size := e
    rcases h3 with h3 | ⟨q, h3, hq⟩
    · rw [h3] at hj; injection hj with hj; have hj : g7 = j := hj; omega
    · rw [h3] at hj; injection hj with hj; have := HSZ.out; omega)
  have hx10 : ∀ v l, TxR W8 v l → (∀ g o n c, v = .slice (some ⟨g, o, none⟩) n c → g ≠ g7 ∧ g ≠ w7.heap.size) → TxR (w'.setCell ⟨w7.heap.size, 1, none⟩ (.slice na 4 nc)) v l := fun v l hv hn => txR_chg (txR_chg hv h2 (fun g o n c e h => by injection h with h; exact (hn g o n c e).1 h)) chS (fun g o n c e h => (hn g o n c e).2 h)
  have hat10 : AtAt (w'.setCell ⟨w7.heap.size, 1, none⟩ (.slice na 4 nc)) (.slice na 4 nc) yA := by
    refine atAt_owns (A := yA) (L := perRow b7 ++ [([117, 105, 100, 78, 117, 109, 98, 101, 114], .slice (some ⟨w7.heap.size + 1, 0, none⟩) 1 1)]) hrow10 rfl (fun i i1 i2 => ?_)
    have hgb := HR8.out.2.2.2.1
    have hp := fun i h1 h2 => HR8.out.2.2.2.2 i h1 h2
    match i, i1 with
    | 0, _ => exact ⟨rfl, hx10 _ _ (hp 0 (by decide) (by show _ < 3; decide)).2 (fun g o n c e => by injection e with e; injection e with e; injection e with e; omega)⟩
    | 1, _ => exact ⟨rfl, hx10 _ _ (hp 1 (by decide) (by show _ < 3; decide)).2 (fun g o n c e => by injection e with e; injection e with e; injection e with e; omega)⟩
    | 2, _ => exact ⟨rfl, hx10 _ _ (hp 2 (by decide) (by show _ < 3; decide)).2 (fun g o n c e => by injection e with e; injection e with e; injection e with e; omega)⟩
    | 3, _ => exact ⟨rfl, hx10 _ _ HR8.out.2.2.1 (fun g o n c e => by injection e with e; injection e with e; injection e with e; omega)⟩
  obtain ⟨W10, hW10⟩ : ∃ W10, w'.setCell ⟨w7.heap.size, 1, none⟩ (.slice na 4 nc) = W10 := ⟨_, rfl⟩
  rw [hW10] at g10 hbw10 hat10 ⊢
  have H10 := Lib.hid (And.intro (scAt_below H7.out.1 hbw10) (And.intro (H7.out.2.1.trans (hbw10.mono H7.out.2.1.size)) (And.intro (obj_below H7.out.2.2.2.2.1 hbw10 k4) (And.intro (atAt_below H7.out.2.2.2.2.2 hbw10) (And.intro g10 hat10)))))
  clear hst g9 q1 q2 q7 h1 h2 h3 hbw9 t0 t1 t2 u0 u1 u2 g10 chS hbw10 hrow10 hx10 hat10 hW10
  refine (person_any W10).mono ?_
  rintro en w11 ⟨g11, b11, rfl, hu1, hu2, hu3, hat, hb⟩
  clear hu1 hu2 hu3
  have H11 := Lib.hid (And.intro (scAt_below H10.out.1 hb) (And.intro (H10.out.2.1.trans (hb.mono H10.out.2.1.size)) (And.intro (obj_below H10.out.2.2.1 hb (obj_lt H10.out.2.2.1)) (And.intro (atAt_below H10.out.2.2.2.1 hb) (And.intro (obj_below H10.out.2.2.2.2.1 hb (obj_lt H10.out.2.2.2.2.1)) (atAt_below H10.out.2.2.2.2.2 hb))))))
  have hC1 := HC.out perA _ g w11 H11.out.2.1 H11.out.1 hat (by decide) (by decide +kernel)
  rw [aw_3] at hC1
  have HC1 := Lib.hid hC1
  clear hat hb hC1
  go_wp2_with fail
  refine HC1.out.mono ?_
  rintro en w12 ⟨rfl, hb⟩
  have H12 := Lib.hid (And.intro (scAt_below H11.out.1 hb) (And.intro (H11.out.2.1.trans (hb.mono H11.out.2.1.size)) (And.intro (obj_below H11.out.2.2.1 hb (obj_lt H11.out.2.2.1)) (And.intro (atAt_below H11.out.2.2.2.1 hb) (And.intro (obj_below H11.out.2.2.2.2.1 hb (obj_lt H11.out.2.2.2.2.1)) (atAt_below H11.out.2.2.2.2.2 hb))))))
  have hC2 := HC.out (perA.take 2) _ g w12 H12.out.2.1 H12.out.1 H12.out.2.2.2.1 (by decide) (by decide +kernel)
  rw [aw_4] at hC2
  have HC2 := Lib.hid hC2
  obtain ⟨x0, x1⟩ := obj2s H12.out.2.2.1
  clear hb hC2
  go_wp2_with fail
  refine HC2.out.mono ?_
  rintro en w13 ⟨rfl, hb⟩
  have H13 := Lib.hid (And.intro (scAt_below H12.out.1 hb) (And.intro (H12.out.2.1.trans (hb.mono H12.out.2.1.size)) (And.intro (obj_below H12.out.2.2.2.2.1 hb (obj_lt H12.out.2.2.2.2.1)) (atAt_below H12.out.2.2.2.2.2 hb))))
  have hC3 := HC.out yA _ g w13 H13.out.2.1 H13.out.1 H13.out.2.2.2 (by decide) (by decide +kernel)
  rw [aw_5] at hC3
  have HC3 := Lib.hid hC3
  have z01 := obj2s (a := .string ⟨#[99, 110, 61, 97]⟩) (b := .slice na 4 nc) H13.out.2.2.1
  obtain ⟨z0, z1⟩ := z01
  clear hb hC3 x0 x1
  go_wp2_with fail
  refine HC3.out.mono ?_
  rintro en w14 ⟨rfl, hb⟩
  have hT := stypes_any g plT plC w14 (scAt_below H13.out.1 hb) (by decide) (by decide) plT_nodup
  have HT := Lib.hid (hT.mono (R' := fun en w' => ∃ a c, en = .returned (.slice a 13 c) ∧ Below w14.heap.size w14 w') (fun en w' h => by
    obtain ⟨a, c, h1, _, h2⟩ := h
    rw [aw_8] at h1
    exact ⟨a, c, h1, h2⟩))
  have HB14 := Lib.hid (H13.out.2.1.trans (hb.mono H13.out.2.1.size))
  clear hb hT z0 z1
  go_wp2_with fail
  refine HT.out.mono ?_
  rintro en w15 ⟨a15, c15, rfl, hb⟩
  have HB15 := Lib.hid (HB14.out.trans (hb.mono HB14.out.size))
  clear hb
  go_wp2
  go_ret
  exact bB_mk rfl HB15.out
end Go.Proofs.YtcfckgpjdaadeaaGreatDoor
