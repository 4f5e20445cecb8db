/- Two rules; the examples of what is seen. -/
import Derived.Test.YtbihhdkmmlldnaaGreatDoorViB
import Derived.Test.YtbihhdkmmlldnaaGreatDoorAcG
import Derived.Test.YtbihhdkmmlldnaaGreatDoorSnUW
import Derived.Test.YtbihhdkmmlldnaaGreatDoorEnMP
namespace Go.Proofs.YtbihhdkmmlldnaaGreatDoor
set_option linter.unusedSimpArgs false
set_option linter.unusedVariables false
open Go Go.RowKit Go.Proofs.BerK Go.Proofs.MemK Go.Proofs.UtfK

def AlPost (t : List UInt8) (w : World) (en : Ending) (w' : World) : Prop := ∃ b, en = .returned (.slice (some ⟨b, 0, none⟩) 2 2) ∧ RlAt w' (.slice (some ⟨b, 0, none⟩) 2 2) (twR t) ∧ Below w.heap.size w w'
set_option maxRecDepth 100000 in
theorem vall_any (t : List UInt8) (w : World) : Calls Tryz.prog 37 #[.string ⟨t.toArray⟩] w (AlPost t w) := by
  go_enter Tryz.func37, Tryz.ntmps37
  go_wp2
  go_ret
  refine ⟨w.heap.size, rfl, ?_, (Below.refl _ w).alloc (Nat.le_refl _) _⟩
  exact rlAt_block (L := twR t) 2 (heap_alloc_new w _)
def enP3 : List Atr := [([99, 110], [[97]]), ([111, 98, 106, 101, 99, 116, 99, 108, 97, 115, 115], [[116, 111, 112], [80, 101, 114, 115, 111, 110]]), ([115, 110], [[98]])]
theorem cl_put (A : List Atr) (a : Atr) : clA (A ++ [a]) = putL (clA A) (lowL a.1) a.2 := by
  rw [put_cl]
theorem enPer_cl : clA perA = enP3 := by
  have e : perA = (([] ++ [([111, 98, 106, 101, 99, 116, 67, 108, 97, 115, 115], [[116, 111, 112], [80, 101, 114, 115, 111, 110]])]) ++ [([99, 110], [[97]])]) ++ [([115, 110], [[98]])] := rfl
  rw [e, cl_put, cl_put, cl_put, cl_nil]
  decide +kernel
theorem eaAt_blk {w : World} {g : Nat} {A : List Atr} {L : List (List UInt8 × Value)} {e : TypeId} (c : Nat) (h : w.heap[g]? = some (.cells (atcs L).toArray e (0, 0))) (hl : L.length = A.length) (hx : ∀ i (h1 : i < A.length) (h2 : i < L.length), L[i].1 = A[i].1 ∧ TxR w L[i].2 A[i].2) (hk : ∀ q ∈ L, SlOk q.2) :
    EaAt w (.slice (some ⟨g, 0, none⟩) A.length c) A := by
  refine ⟨.inr ⟨_, _, _, rfl⟩, _, _, rfl, fun i hi => ?_⟩
  obtain ⟨h1, h2⟩ := atcs_at L i (by omega)
  obtain ⟨x1, x2⟩ := hx i hi (by omega)
  refine ⟨g, 0, L[i].2, rfl, obj_lt h, ?_, ?_, x2, hk _ (List.getElem_mem _)⟩
  · rw [Nat.zero_add, ← x1]; exact obj_cell h _ _ (by simpa using h1)
  · rw [Nat.zero_add]; exact obj_cell h _ _ (by simpa using h2)
theorem eaAt_per {w : World} {g b : Nat} (h : w.heap[g]? = some (.cells (atcs (perRow b)).toArray 50 (0, 0))) (hx : ∀ i (h1 : i < perA.length) (h2 : i < (perRow b).length), (perRow b)[i].1 = perA[i].1 ∧ TxR w (perRow b)[i].2 perA[i].2) : EaAt w (.slice (some ⟨g, 0, none⟩) 3 3) perA :=
  eaAt_blk (A := perA) 3 h rfl hx (fun q hq => by
    unfold perRow at hq
    simp only [List.mem_cons, List.not_mem_nil, or_false] at hq
    rcases hq with rfl | rfl | rfl <;> exact .inr ⟨_, _, _, rfl⟩)

theorem vun_a : undL [99, 110, 61, 97] [] = true := und_of (P := [pA]) (E := []) nr_a nr_e
theorem vse_sn : seB (twR [115, 110]) [] [99, 110, 61, 97] = true := by
  unfold seB
  rw [tw_al (by decide +kernel) (by decide +kernel) vun_a]
  decide +kernel
theorem vse_en : seB (twR [101, 110, 116, 114, 121]) [] [99, 110, 61, 97] = false := by
  unfold seB
  rw [tw_al (by decide +kernel) (by decide +kernel) vun_a]
  decide +kernel
theorem vse_no (s dn : List UInt8) : seB [] s dn = false := by
  unfold seB
  rw [al_gv]
  simp [gvL]
def vwL : List Atr := [([99, 110], [[97]]), ([111, 98, 106, 101, 99, 116, 99, 108, 97, 115, 115], [[116, 111, 112], [80, 101, 114, 115, 111, 110]])]
theorem vvw_sn : vwA (twR [115, 110]) [] [99, 110, 61, 97] perA = vwL := by
  unfold vwA
  rw [enPer_cl]
  have : (fun a : Atr => rdB (twR [115, 110]) [] [99, 110, 61, 97] a.1) = fun a : Atr => !(lowL [115, 110] == lowL a.1) := by
    funext a
    unfold rdB
    rw [tw_al (by decide +kernel) (by decide +kernel) vun_a]
  rw [this]
  decide +kernel
set_option maxHeartbeats 12800000 in
set_option maxRecDepth 100000 in
theorem awake17_any (w : World) (he : ErrOk w) : Calls Tryz.prog 19 #[] w (BoolPost true w) := by
  have HE := Lib.hid (fun w' (hb : Below w.heap.size w w') => errOk_below he hb)
  have A1 : Hid (∀ w, Calls Tryz.prog 37 #[.string ⟨#[115, 110]⟩] w (AlPost [115, 110] w)) := fun w => vall_any [115, 110] w
  have A2 : Hid (∀ w, Calls Tryz.prog 37 #[.string ⟨#[101, 110, 116, 114, 121]⟩] w (AlPost [101, 110, 116, 114, 121] w)) := fun w => vall_any [101, 110, 116, 114, 121] w
  have P := Lib.hid (fun w => person_any w)
  have E1 : Hid (∀ lv av w, ErrOk w → RlAt w lv (twR [115, 110]) → EaAt w av perA → Calls Tryz.prog 20 #[lv, .string ⟨#[]⟩, .agg #[.string ⟨#[99, 110, 61, 97]⟩, av]] w (VePost true [99, 110, 61, 97] vwL w)) := fun lv av w he hl ha => by
    have := ventry_any perA (twR [115, 110]) [99, 110, 61, 97] [] lv av w he hl ha (by unfold FewE; decide +kernel)
    rw [vse_sn, vvw_sn] at this
    exact this
  have E2 : Hid (∀ lv av w, ErrOk w → RlAt w lv (twR [101, 110, 116, 114, 121]) → EaAt w av perA → Calls Tryz.prog 20 #[lv, .string ⟨#[]⟩, .agg #[.string ⟨#[99, 110, 61, 97]⟩, av]] w (VePost false [99, 110, 61, 97] (vwA (twR [101, 110, 116, 114, 121]) [] [99, 110, 61, 97] perA) w)) := fun lv av w he hl ha => by
    have := ventry_any perA (twR [101, 110, 116, 114, 121]) [99, 110, 61, 97] [] lv av w he hl ha (by unfold FewE; decide +kernel)
    rw [vse_en] at this
    exact this
  have S1 : Hid (∀ lv w, ErrOk w → RlAt w lv (twR [115, 110]) → Calls Tryz.prog 23 #[lv, .string ⟨#[]⟩, .string ⟨#[99, 110, 61, 97]⟩] w (BoolPost true w)) := fun lv w he hl => by rw [← vse_sn]; exact seen_any lv _ [] _ w he hl
  have S2 : Hid (∀ w, ErrOk w → Calls Tryz.prog 23 #[.slice none 0 0, .string ⟨#[]⟩, .string ⟨#[99, 110, 61, 97]⟩] w (BoolPost false w)) := fun w he => by rw [← vse_no [] [99, 110, 61, 97]]; exact seen_any _ [] [] _ w he (rlAt_nil w none 0)
  have O1 : Hid (∀ lv w, ErrOk w → RlAt w lv (twR [115, 110]) → Calls Tryz.prog 25 #[lv, .string ⟨#[]⟩, .string ⟨#[99, 110, 61, 97]⟩] w (StrPost [99, 110, 61, 97] w)) := fun lv w he hl => by
    have := old_any lv (twR [115, 110]) [] [99, 110, 61, 97] w he hl
    rw [vse_sn] at this
    exact this
  have O2 : Hid (∀ w, ErrOk w → Calls Tryz.prog 25 #[.slice none 0 0, .string ⟨#[]⟩, .string ⟨#[99, 110, 61, 97]⟩] w (StrPost [] w)) := fun w he => by
    have := old_any (.slice none 0 0) [] [] [99, 110, 61, 97] w he (rlAt_nil w none 0)
    rw [vse_no] at this
    exact this
  clear he
  go_enter Tryz.func19, Tryz.ntmps19
  go_wp2_with fail
  refine (A1.out w).mono ?_
  rintro e w1 ⟨b1, rfl, hl1, hb1⟩
  have B1 := Lib.hid (And.intro hb1 hl1)
  clear hb1 hl1
  go_wp2_with fail
  refine (P.out w1).mono ?_
  rintro e w2 ⟨pg, pb, rfl, hp1, hpx, hp2, hpy, hb2⟩
  clear hpx hpy
  have B2 := Lib.hid (And.intro (B1.out.1.trans (hb2.mono B1.out.1.size)) (And.intro (rlAt_below B1.out.2 hb2) (eaAt_per hp1 hp2)))
  clear hb2 hp1 hp2
  go_wp2_with fail
  refine (E1.out _ _ w2 (HE.out _ B2.out.1) B2.out.2.1 B2.out.2.2).mono ?_
  rintro e w3 ⟨hx, hb3⟩
  rcases hx with ⟨h0, _⟩ | ⟨_, va, vc, he3, _⟩
  · cases h0
  have he3 : e = .returned (.tuple #[.agg #[.string ⟨#[99, 110, 61, 97]⟩, .slice va 2 vc], .bool true]) := he3
  subst he3
  have B3 := Lib.hid (B2.out.1.trans (hb3.mono B2.out.1.size))
  clear hb3
  obtain ⟨W4, hW4⟩ : ∃ W4, w3.alloc (.cells #[.string ⟨#[99, 110, 61, 97]⟩, .slice va 2 vc] 40) = W4 := ⟨_, rfl⟩
  have hg4 : W4.heap[w3.heap.size]? = some (.cells #[.string ⟨#[99, 110, 61, 97]⟩, .slice va 2 vc] 40 (0, 0)) := by rw [← hW4]; exact heap_alloc_new w3 _
  have B4 := Lib.hid (show Below w.heap.size w W4 by rw [← hW4]; exact B3.out.alloc B3.out.size _)
  have HW4 := Lib.hid hW4
  clear hW4
  go_wp2_with fail
  rw [HW4.out]
  refine (A2.out W4).mono ?_
  rintro e w5 ⟨b5, rfl, hl5, hb5⟩
  have B5 := Lib.hid (And.intro (B4.out.trans (hb5.mono B4.out.size)) (And.intro hl5 (obj_below hg4 hb5 (obj_lt hg4))))
  clear hb5 hl5 hg4
  go_wp2_with fail
  refine (P.out w5).mono ?_
  rintro e w6 ⟨qg, qb, rfl, hp1, hpx, hp2, hpy, hb6⟩
  clear hpx hpy
  have B6 := Lib.hid (And.intro (B5.out.1.trans (hb6.mono B5.out.1.size)) (And.intro (rlAt_below B5.out.2.1 hb6) (And.intro (eaAt_per hp1 hp2) (obj_below B5.out.2.2 hb6 (obj_lt B5.out.2.2)))))
  clear hb6 hp1 hp2
  go_wp2_with fail
  refine (E2.out _ _ w6 (HE.out _ B6.out.1) B6.out.2.1 B6.out.2.2.1).mono ?_
  rintro e w7 ⟨hx, hb7⟩
  rcases hx with ⟨_, he7⟩ | ⟨h0, _⟩
  rotate_left
  · cases h0
  subst he7
  have B7 := Lib.hid (And.intro (B6.out.1.trans (hb7.mono B6.out.1.size)) (obj_below B6.out.2.2.2 hb7 (obj_lt B6.out.2.2.2)))
  clear hb7
  obtain ⟨W8, hW8⟩ : ∃ W8, w7.alloc (.cells #[.string ⟨#[]⟩, .slice none 0 0] 40) = W8 := ⟨_, rfl⟩
  have hg8 : W8.heap[w3.heap.size]? = some (.cells #[.string ⟨#[99, 110, 61, 97]⟩, .slice va 2 vc] 40 (0, 0)) := by rw [← hW8]; exact obj_alloc B7.out.2 _
  have B8 := Lib.hid (show Below w.heap.size w W8 by rw [← hW8]; exact B7.out.1.alloc B7.out.1.size _)
  obtain ⟨j0, j1⟩ := obj2s hg8
  rw [← hW8] at j0 j1
  have HW8 := Lib.hid hW8
  clear hW8 hg8
  go_wp2_with fail
  rw [HW8.out]
  clear j0 j1
  refine (A1.out W8).mono ?_
  rintro e w9 ⟨b9, rfl, hl9, hb9⟩
  have B9 := Lib.hid (And.intro (B8.out.trans (hb9.mono B8.out.size)) hl9)
  clear hb9 hl9
  go_wp2_with fail
  refine (S1.out _ w9 (HE.out _ B9.out.1) B9.out.2).mono ?_
  rintro e w10 ⟨rfl, hb⟩
  have B10 := Lib.hid (B9.out.1.trans (hb.mono B9.out.1.size))
  clear hb
  go_wp2_with fail
  refine (S2.out w10 (HE.out _ B10.out)).mono ?_
  rintro e w11 ⟨rfl, hb⟩
  have B11 := Lib.hid (B10.out.trans (hb.mono B10.out.size))
  clear hb
  go_wp2_with fail
  refine (A1.out w11).mono ?_
  rintro e w12 ⟨b12, rfl, hl12, hb12⟩
  have B12 := Lib.hid (And.intro (B11.out.trans (hb12.mono B11.out.size)) hl12)
  clear hb12 hl12
  go_wp2_with fail
  refine (O1.out _ w12 (HE.out _ B12.out.1) B12.out.2).mono ?_
  rintro e w13 ⟨rfl, hb⟩
  have B13 := Lib.hid (B12.out.1.trans (hb.mono B12.out.1.size))
  clear hb
  go_wp2_with fail
  refine (O2.out w13 (HE.out _ B13.out)).mono ?_
  rintro e w14 ⟨rfl, hb⟩
  have B14 := Lib.hid (B13.out.trans (hb.mono B13.out.size))
  clear hb
  go_wp2
  go_ret
  exact boolPost_mk (by first | rfl | simp) B14.out
end Go.Proofs.YtbihhdkmmlldnaaGreatDoor
