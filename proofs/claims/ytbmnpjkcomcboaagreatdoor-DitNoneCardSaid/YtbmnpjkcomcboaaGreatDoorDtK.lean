/- Whether an entry has the values of its own part, and what is asked of it wherever it stands. -/
import Derived.Test.YtbmnpjkcomcboaaGreatDoorDtAC
import Derived.Test.YtbmnpjkcomcboaaGreatDoorEnCE
import Derived.Test.YtbmnpjkcomcboaaGreatDoorSnUW
import Derived.Test.YtbmnpjkcomcboaaGreatDoorPlAC
import Derived.Test.YtbmnpjkcomcboaaGreatDoorDqG
import Derived.Test.YtbmnpjkcomcboaaGreatDoorEnHO
namespace Go.Proofs.YtbmnpjkcomcboaaGreatDoor
set_option linter.unusedSimpArgs false
set_option linter.unusedVariables false
open Go Go.RowKit Go.Proofs.BerK Go.Proofs.MemK Go.Proofs.UtfK Go.Maps Go.WideMaps

def nmP (A : List Atr) (p : Av) : Bool := match scT plT p.1 with
  | none => false
  | some t => (geL A p.1).any (sameQ t.2.1 p.2)
theorem nmgL_all (A : List Atr) (r : List Av) : nmgL A r = r.all (nmP A) := rfl
theorem rd_leaf {s : List UInt8} {r : List Av} {D : List (List Av)} (h : nrD s = some (r :: D)) : rdD (ptL r) = ([r], 0) ∧ r.length ≤ 4096 ∧ ∀ p ∈ r, p.1.length ≤ 4096 ∧ p.2.length ≤ 4096 := by
  obtain ⟨g1, _⟩ := gd_cons (nr_some h).2
  have hp := (g1.2.1 r (by simp)).1
  obtain ⟨p1, p2, p3⟩ := prL_facts hp
  refine ⟨by rw [← nm_one]; exact rd_nm [r] g1.1 (fun q hq => (g1.2.1 q hq).1) g1.2.2, by omega, fun p hp => ?_⟩
  have h3 := p3 p hp
  simp only [avOk, Bool.and_eq_true, decide_eq_true_eq] at h3
  have := tyL_len h3.1.1
  exact ⟨by omega, by omega⟩
theorem all_take1 {α : Type} (f : α → Bool) (r : List α) (j : Nat) (h : j < r.length) : (r.take (j + 1)).all f = ((r.take j).all f && f r[j]) := by
  rw [List.take_succ_eq_append_getElem h, List.all_append]; simp
theorem all_bad {α : Type} (f : α → Bool) (r : List α) (j : Nat) (h : j < r.length) (hb : f r[j] = false) : r.all f = false := by
  rw [List.all_eq_false]
  exact ⟨r[j], List.getElem_mem h, by simp [hb]⟩
set_option maxHeartbeats 12800000 in
set_option maxRecDepth 100000 in
theorem dtnmd_any (g sb : Nat) (A : List Atr) (dn : List UInt8) (r : List Av) (D : List (List Av)) (av : Value) (w : World) (hg : w.cell? ⟨g, 0, none⟩ = some (.pointer (some ⟨sb, 0, none⟩))) (zg : g < w.heap.size) (hsc : ScAt w sb plT plC) (hA : EaAt w av A) (hf : FewE A) (hn : nrD dn = some (r :: D)) (he : ErrOk w) :
    Calls Tryz.prog 61 #[.pointer (some ⟨g, 0, none⟩), .agg #[.string ⟨dn.toArray⟩, av]] w (BB (nmgL A r) w) := by
  obtain ⟨W0, hW0⟩ : ∃ W, w.alloc (.cells #[.string ⟨dn.toArray⟩, av] 39) = W := ⟨_, rfl⟩
  have hb0 : Below w.heap.size w W0 := by rw [← hW0]; exact (Below.refl _ w).alloc (Nat.le_refl _) _
  have hx0 : W0.heap[w.heap.size]? = some (.cells #[.string ⟨dn.toArray⟩, av] 39 (0, 0)) := by rw [← hW0]; exact heap_alloc_new w _
  obtain ⟨hrd, hrl, hrp⟩ := rd_leaf hn
  have HLf := Lib.hid (show Calls Tryz.prog 63 #[.string ⟨dn.toArray⟩] W0 (SbPost (ptL r, true) W0) from leaf_cons hn ▸ leaf_any dn W0 (errOk_below he hb0))
  have HRd := Lib.hid (fun w' (hb : Below W0.heap.size W0 w') => show Calls Tryz.prog 107 #[.string ⟨(ptL r).toArray⟩] w' (RdPost ([r], 0) 151 133 w') from hrd ▸ dread_any ⟨(ptL r).toArray⟩ w' (errOk_below he (hb0.trans (hb.mono hb0.size))))
  have HTy := Lib.hid (fun w' (hb : Below w.heap.size w w') s (hs : s.length ≤ 140737488355328) => stype_any sb plT plC s w' (scAt_below hsc hb) plT_lowT hs (by decide +kernel))
  have HHas := Lib.hid (fun w' (hb : Below w.heap.size w w') t x q (ht : t.length ≤ 140737488355328) => has_any A dn t x q av w' (eaAt_below hA hb) hf ht (errOk_below he hb))
  obtain ⟨a, c, rfl⟩ := eaAt_slice hA
  obtain ⟨n, hnn⟩ : ∃ n, A.length = n := ⟨_, rfl⟩
  rw [hnn] at hW0 hx0 HHas ⊢
  obtain ⟨d0, d1⟩ := obj2s hx0
  have HX := Lib.hid (And.intro hb0 hx0)
  have HW0 := Lib.hid hW0
  have HP := Lib.hid hrp
  have HG := Lib.hid hg
  rw [nmgL_all]
  obtain ⟨f, hff⟩ : ∃ f, nmP A = f := ⟨_, rfl⟩
  have HF := Lib.hid hff.symm
  rw [hff]
  clear hsc hA hf hn he hnn hb0 hx0 hW0 hrp hrd hff hg
  go_enter Tryz.func61, Tryz.ntmps61
  go_wp2_with fail
  rw [HW0.out]
  go_wp2_with fail
  refine HLf.out.mono ?_
  rintro e w2 ⟨rfl, hb2⟩
  have HB2 := Lib.hid hb2
  clear hb2
  go_wp2_with fail
  refine (HRd.out w2 HB2.out).mono ?_
  rintro e w4 (⟨h0, _, _⟩ | ⟨_, pg, gs, rfl, hblk, hb4⟩)
  · cases h0
  have hdn := dnAt_blk hblk
  have hb4w : Below W0.heap.size W0 w4 := HB2.out.trans (hb4.mono HB2.out.size)
  obtain ⟨pa, pc, hpe, _, hpp⟩ := hdn
  obtain ⟨pg', po, rv, hpa, hpl, hrv, hav⟩ := hpp 0 (by simp)
  simp only [rowV, List.length_cons, List.length_nil] at hpe
  injection hpe with hpe1 _ hpe3
  subst hpa
  injection hpe1 with hpe1
  injection hpe1 with hpe1 hpe2 _
  subst hpe1 hpe2
  have hrv : w4.cell? ⟨pg, 0, none⟩ = some rv := hrv
  obtain ⟨ra, rc, rfl, _, hcells⟩ := hav
  have hrv : w4.cell? ⟨pg, 0, none⟩ = some (.slice ra r.length rc) := hrv
  have hcells : ∀ i (h : i < r.length), ∃ g o, ra = some ⟨g, o, none⟩ ∧ g < w4.heap.size ∧ w4.cell? ⟨g, o + i * 2, none⟩ = some (.string ⟨r[i].1.toArray⟩) ∧ w4.cell? ⟨g, o + i * 2 + 1, none⟩ = some (.string ⟨r[i].2.toArray⟩) := hcells
  have HM := Lib.hid hcells
  have HRv := Lib.hid (And.intro hrv hpl)
  have HB4 := Lib.hid (And.intro hb4w (HX.out.1.trans (hb4w.mono HX.out.1.size)))
  obtain ⟨m, hm⟩ : ∃ m, r.length = m := ⟨_, rfl⟩
  have HMl := Lib.hid hm
  have hm2 : m ≤ 4096 := by rw [← hm]; exact hrl
  simp only [rowV, List.length_cons, List.length_nil]
  clear hblk hb4 hb4w hrv hcells hpp hpl hm hrl d0 d1 hpe3
  go_wp2
  go_loopw [28] (fun v wr => ∃ k : Nat, k ≤ 1 ∧ v = .int .i64 (k : Nat) ∧ Below w4.heap.size w4 wr ∧ (k = 1 → r.all f = true)) (fun v _ => 1 - (intOf v).toNat)
  case atStart => exact ⟨0, by omega, rfl, Below.refl _ _, fun h => by omega⟩
  case round =>
    obtain ⟨k, hk, rfl, hbo, hall⟩ := hrel
    obtain ⟨wo, rfl⟩ : ∃ x, x = wr := ⟨_, rfl⟩
    by_cases hlt : k < 1
    · have hk0 : k = 0 := by omega
      have hkl : (k : Int) < 1 := by omega
      have e0 : wo.cell? ⟨pg, k, none⟩ = some (.slice ra r.length rc) := by rw [hk0]; exact (hbo.cell (p := ⟨pg, 0, none⟩) HRv.out.2).trans HRv.out.1
      have HBO := Lib.hid (And.intro hbo hk0)
      rw [HMl.out] at e0
      clear hbo hall hlt hk hk0
      go_wp2
      clear e0
      go_loopw [34] (fun v wi => ∃ j : Nat, j ≤ m ∧ v = .int .i64 (j : Nat) ∧ Below w4.heap.size w4 wi ∧ (r.take j).all f = true) (fun v _ => m - (intOf v).toNat)
      case atStart => exact ⟨0, by omega, rfl, HBO.out.1, rfl⟩
      case round =>
        obtain ⟨j, hj, rfl, hb, hall⟩ := hrel
        by_cases hlt : j < m
        · have hkl : (j : Int) < (m : Int) := by omega
          have hjr : j < r.length := by rw [HMl.out]; exact hlt
          obtain ⟨ag, ao, rfl, hag, a0w, a1w⟩ := HM.out j hjr
          have a0 := (hb.cell (p := ⟨ag, _, none⟩) hag).trans a0w
          have a1 := (hb.cell (p := ⟨ag, _, none⟩) hag).trans a1w
          have hst := all_take1 f r j hjr
          have hbad := all_bad f r j hjr
          have hpl := HP.out _ (List.getElem_mem hjr)
          obtain ⟨⟨pt, pv⟩, hrj⟩ : ∃ x, r[j] = x := ⟨_, rfl⟩
          rw [hrj] at a0 a1 hst hbad hpl
          dsimp only at a0 a1 hpl
          rw [hall] at hst
          obtain ⟨W5, hW5⟩ : ∃ W5, wr.alloc (.cells #[.string ⟨pt.toArray⟩, .string ⟨pv.toArray⟩] 151) = W5 := ⟨_, rfl⟩
          have hb5 : Below wr.heap.size wr W5 := by rw [← hW5]; exact (Below.refl _ wr).alloc (Nat.le_refl _) _
          have y5 : W5.heap[wr.heap.size]? = some (.cells #[.string ⟨pt.toArray⟩, .string ⟨pv.toArray⟩] 151 (0, 0)) := by rw [← hW5]; exact heap_alloc_new wr _
          have hb05 : Below w.heap.size w W5 := HB4.out.2.trans ((hb.trans (hb5.mono hb.size)).mono HB4.out.2.size)
          obtain ⟨f0, f1⟩ := obj2s y5
          have zx := obj_lt y5
          have ps := (hb05.cell (p := ⟨g, 0, none⟩) zg).trans HG.out
          have zg5 := zg
          have zg := Nat.lt_of_lt_of_le zg hb05.size
          have HTy := Lib.hid (fun w' (hb' : Below W5.heap.size W5 w') => HTy.out w' (hb05.trans (hb'.mono hb05.size)) pt (by omega))
          have HB := Lib.hid (And.intro hb (And.intro hb5 (And.intro hb05 (And.intro hst hbad))))
          have hx5 := obj_below HX.out.2 ((HB4.out.1.trans ((hb.trans (hb5.mono hb.size)).mono HB4.out.1.size))) (obj_lt HX.out.2)
          have HX5 := Lib.hid hx5
          have HPl := Lib.hid (show pt.length ≤ 140737488355328 by omega)
          have HW5 := Lib.hid hW5
          obtain ⟨bx, hbx⟩ : ∃ bx, wr.heap.size = bx := ⟨_, rfl⟩
          rw [hbx] at f0 f1 zx
          clear hb hb5 y5 hb05 hst hbad hall a0w a1w hrj hx5 hW5 hpl
          cases hsc : scT plT pt with
          | none =>
            rw [hsc] at HTy
            have HTy := Lib.hid (fun w' (hb' : Below W5.heap.size W5 w') => show Calls Tryz.prog 108 #[.pointer (some ⟨sb, 0, none⟩), .string ⟨pt.toArray⟩] w' (fun en w'' => en = .returned (.tuple #[.agg #[.string ⟨#[]⟩, .int .i64 0, .bool false], .bool false]) ∧ Below w'.heap.size w' w'') from HTy.out w' hb')
            have HQ := Lib.hid (show r.all f = false from HB.out.2.2.2.2 (by rw [HF.out]; unfold nmP; rw [hsc]))
            clear hsc
            go_wp2_with fail
            rw [HW5.out]
            clear hbx a0 a1
            have kps : ∀ ob, (W5.drew.alloc ob).cell? ⟨g, 0, none⟩ = some (.pointer (some ⟨sb, 0, none⟩)) := fun ob => (((Below.refl W5.heap.size W5).drew.alloc (Nat.le_refl _) ob).cell (p := ⟨g, 0, none⟩) zg).trans ps
            have kf0 : ∀ ob, (W5.drew.alloc ob).cell? ⟨bx, 0, none⟩ = some (.string ⟨pt.toArray⟩) := fun ob => (((Below.refl W5.heap.size W5).drew.alloc (Nat.le_refl _) ob).cell (p := ⟨bx, 0, none⟩) zx).trans f0
            refine wp_region_noPanic ?_
            refine wp_region_held_drew (S := fun w' => w'.cell? ⟨g, 0, none⟩ = some (.pointer (some ⟨sb, 0, none⟩)) ∧ w'.cell? ⟨bx, 0, none⟩ = some (.string ⟨pt.toArray⟩)) (by kernel_rfl) ?_ (fun hHeld => ?_)
            · exact ⟨ps, f0⟩
            refine wpAnyH_take (i := 0) (v := ?vk0) rfl (by kernel_rfl) (by kernel_rfl) (by kernel_rfl) (fun _ _ _ h => h) (Or.inl ⟨by rfl, ?yk0⟩) (by assumption) ?rk0
            case yk0 => (intro w' hSw; (try dsimp only at hSw); go_simp; with_reducible rfl)
            try simp only [List.getElem_toArray, List.getElem_cons_zero, List.getElem_cons_succ, Act.put, List.setIfInBounds_toArray, List.set_cons_zero, List.set_cons_succ]
            refine wpAnyH_take (i := 1) (v := ?vk1) rfl (by kernel_rfl) (by kernel_rfl) (by kernel_rfl) (fun _ _ _ h => h) (Or.inl ⟨by rfl, ?yk1⟩) (by assumption) ?rk1
            case yk1 => (intro w' hSw; (try dsimp only at hSw); go_simp; with_reducible rfl)
            try simp only [List.getElem_toArray, List.getElem_cons_zero, List.getElem_cons_succ, Act.put, List.setIfInBounds_toArray, List.set_cons_zero, List.set_cons_succ]
            refine wpAnyH_take (i := 2) (v := ?vk2) rfl (by kernel_rfl) (by kernel_rfl) (by kernel_rfl) (fun _ _ _ h => h) (Or.inl ⟨by rfl, ?yk2⟩) (by assumption) ?rk2
            case yk2 => (intro w' hSw; (try dsimp only at hSw); go_simp; with_reducible rfl)
            try simp only [List.getElem_toArray, List.getElem_cons_zero, List.getElem_cons_succ, Act.put, List.setIfInBounds_toArray, List.set_cons_zero, List.set_cons_succ]
            refine wpAnyH_take (i := 3) (v := ?vk3) rfl (by kernel_rfl) (by kernel_rfl) (by kernel_rfl) (fun _ _ _ h => h) (Or.inl ⟨by rfl, ?yk3⟩) (by assumption) ?rk3
            case yk3 => (intro w' hSw; (try dsimp only at hSw); go_simp; with_reducible rfl)
            try simp only [List.getElem_toArray, List.getElem_cons_zero, List.getElem_cons_succ, Act.put, List.setIfInBounds_toArray, List.set_cons_zero, List.set_cons_succ]
            refine wpAnyH_take (i := 4) (v := ?vk4) rfl (by kernel_rfl) (by kernel_rfl) (by kernel_rfl) (fun _ _ _ h => h) (Or.inl ⟨by rfl, ?yk4⟩) (by assumption) ?rk4
            case yk4 => (intro w' hSw; (try dsimp only at hSw); go_simp; with_reducible rfl)
            try simp only [List.getElem_toArray, List.getElem_cons_zero, List.getElem_cons_succ, Act.put, List.setIfInBounds_toArray, List.set_cons_zero, List.set_cons_succ]
            refine wpAnyH_take (i := 5) (v := ?vk5) rfl (by kernel_rfl) (by kernel_rfl) (by kernel_rfl) (fun _ _ _ h => h) (Or.inl ⟨by rfl, ?yk5⟩) (by assumption) ?rk5
            case yk5 => (intro w' hSw; (try dsimp only at hSw); go_simp; with_reducible rfl)
            try simp only [List.getElem_toArray, List.getElem_cons_zero, List.getElem_cons_succ, Act.put, List.setIfInBounds_toArray, List.set_cons_zero, List.set_cons_succ]
            refine wpAnyH_ready (rs := [6, 10]) (by kernel_rfl) (by simp) ?_
            refine (AllReadyH.cons (o := _) rfl (fun KR hKR => ?ckb6) (AllReadyH.cons (o := _) rfl (fun KR hKR => ?ckb10) AllReadyH.nil))
            case ckb6 =>
              go_simp
              go_at_call 108
              with_reducible refine (HTy.out _ (by first | exact (Below.refl _ _).drew | exact Below.refl _ _)).mono ?_
              rintro en w6 ⟨rfl, hb6⟩
              have hb6 : Below W5.heap.size W5 w6 := (by first | exact (Below.refl _ W5).drew.trans hb6 | exact hb6)
              have hps := (hb6.cell (p := ⟨g, 0, none⟩) zg).trans ps
              have hf0 := (hb6.cell (p := ⟨bx, 0, none⟩) zx).trans f0
              have ips : ∀ ob, (w6.alloc ob).cell? ⟨g, 0, none⟩ = some (.pointer (some ⟨sb, 0, none⟩)) := fun ob => (((Below.refl w6.heap.size w6).alloc (Nat.le_refl _) ob).cell (p := ⟨g, 0, none⟩) (Nat.lt_of_lt_of_le zg hb6.size)).trans hps
              have if0 : ∀ ob, (w6.alloc ob).cell? ⟨bx, 0, none⟩ = some (.string ⟨pt.toArray⟩) := fun ob => (((Below.refl w6.heap.size w6).alloc (Nat.le_refl _) ob).cell (p := ⟨bx, 0, none⟩) (Nat.lt_of_lt_of_le zx hb6.size)).trans hf0
              have H6 := Lib.hid hb6
              clear hb6
              go_wp2_with fail
              refine hKR.out _ _ ?_ (fun hHeld => ?_)
              · exact ⟨hps, hf0⟩
              clear hKR KR
              try simp only [List.getElem_toArray, List.getElem_cons_zero, List.getElem_cons_succ, Act.put, List.setIfInBounds_toArray, List.set_cons_zero, List.set_cons_succ]
              refine wpAnyH_take (i := 7) (v := ?vkb67) rfl (by kernel_rfl) (by kernel_rfl) (by kernel_rfl) (fun _ _ _ h => h) (Or.inl ⟨by rfl, ?ykb67⟩) (by assumption) ?rkb67
              case ykb67 => (intro w' hSw; (try dsimp only at hSw); go_simp; with_reducible rfl)
              try simp only [List.getElem_toArray, List.getElem_cons_zero, List.getElem_cons_succ, Act.put, List.setIfInBounds_toArray, List.set_cons_zero, List.set_cons_succ]
              refine wpAnyH_take (i := 8) (v := ?vkb68) rfl (by kernel_rfl) (by kernel_rfl) (by kernel_rfl) (fun _ _ _ h => h) (Or.inl ⟨by rfl, ?ykb68⟩) (by assumption) ?rkb68
              case ykb68 => (intro w' hSw; (try dsimp only at hSw); go_simp; with_reducible rfl)
              try simp only [List.getElem_toArray, List.getElem_cons_zero, List.getElem_cons_succ, Act.put, List.setIfInBounds_toArray, List.set_cons_zero, List.set_cons_succ]
              refine wpAnyH_take (i := 9) (v := ?vkb69) rfl (by kernel_rfl) (by kernel_rfl) (by kernel_rfl) (fun _ _ _ h => h) (Or.inl ⟨by rfl, ?ykb69⟩) (by assumption) ?rkb69
              case ykb69 => (intro w' hSw; (try dsimp only at hSw); go_simp; with_reducible rfl)
              try simp only [List.getElem_toArray, List.getElem_cons_zero, List.getElem_cons_succ, Act.put, List.setIfInBounds_toArray, List.set_cons_zero, List.set_cons_succ]
              refine wpAnyH_ready (rs := [10]) (by kernel_rfl) (by simp) ?_
              refine AllReadyH.cons (o := _) rfl (fun KR hKR => ?ckb610) ?nkb610
              case nkb610 => exact AllReadyH.nil
              go_simp
              refine hKR.out _ _ ?_ (fun hHeld => ?_)
              · exact ⟨ips _, if0 _⟩
              clear hKR KR
              try simp only [List.getElem_toArray, List.getElem_cons_zero, List.getElem_cons_succ, Act.put, List.setIfInBounds_toArray, List.set_cons_zero, List.set_cons_succ]
              refine wpAnyH_ready (rs := [11]) (by kernel_rfl) (by simp) ?_
              refine AllReadyH.cons (o := _) rfl (fun KR hKR => ?ckb611) ?nkb611
              case nkb611 => exact AllReadyH.nil
              go_simp
              refine hKR.out _ _ ?_ (fun hHeld => ?_)
              · exact ⟨ips _, if0 _⟩
              clear hKR KR
              try simp only [List.getElem_toArray, List.getElem_cons_zero, List.getElem_cons_succ, Act.put, List.setIfInBounds_toArray, List.set_cons_zero, List.set_cons_succ]
              refine wpAnyH_take (i := 12) (v := ?vkb612) rfl (by kernel_rfl) (by kernel_rfl) (by kernel_rfl) (fun _ _ _ h => h) (Or.inl ⟨by rfl, ?ykb612⟩) (by assumption) ?rkb612
              case ykb612 => (intro w' hSw; (try dsimp only at hSw); go_simp; with_reducible rfl)
              try simp only [List.getElem_toArray, List.getElem_cons_zero, List.getElem_cons_succ, Act.put, List.setIfInBounds_toArray, List.set_cons_zero, List.set_cons_succ]
              refine wpAnyH_done (by kernel_rfl) ?_ _
              refine NoPanic.normal ?_
              obtain ⟨W7, hW7⟩ : ∃ W7, w6.alloc (.cells #[.string ⟨#[]⟩, .int .i64 0, .bool false] 76) = W7 := ⟨_, rfl⟩
              have hbx7 : W7.heap[w6.heap.size]? = some (.cells #[.string ⟨#[]⟩, .int .i64 0, .bool false] 76 (0, 0)) := by rw [← hW7]; exact heap_alloc_new w6 _
              have hb7 : Below W5.heap.size W5 W7 := by rw [← hW7]; exact H6.out.alloc H6.out.size _
              rw [hW7]
              obtain ⟨by7, hby⟩ : ∃ b, w6.heap.size = b := ⟨_, rfl⟩
              rw [hby] at hbx7 ⊢
              have H7 := Lib.hid (And.intro hbx7 hb7)
              clear hbx7 hb7 hW7 hby H6 hps ips hf0 if0
              go_wp2
              go_ret
              exact bB_mk HQ.out (HB.out.2.2.1.trans (H7.out.2.mono HB.out.2.2.1.size))
            case ckb10 =>
              go_simp
              refine hKR.out _ _ ?_ (fun hHeld => ?_)
              · exact ⟨kps _, kf0 _⟩
              clear hKR KR
              try simp only [List.getElem_toArray, List.getElem_cons_zero, List.getElem_cons_succ, Act.put, List.setIfInBounds_toArray, List.set_cons_zero, List.set_cons_succ]
              refine wpAnyH_ready (rs := [6]) (by kernel_rfl) (by simp) ?_
              refine AllReadyH.cons (o := _) rfl (fun KR hKR => ?ckb106) ?nkb106
              case nkb106 => exact AllReadyH.nil
              go_simp
              go_at_call 108
              with_reducible refine (HTy.out _ (by first | exact ((Below.refl _ W5).drew.alloc (Nat.le_refl _) _) | exact ((Below.refl _ W5).alloc (Nat.le_refl _) _).drew | exact ((Below.refl _ W5).alloc (Nat.le_refl _) _))).mono ?_
              rintro en w6 ⟨rfl, hb6⟩
              have hbox : w6.heap[W5.heap.size]? = some (.cells #[.string ⟨#[]⟩, .int .i64 0, .bool false] 76 (0, 0)) := (by first | exact obj_below (heap_alloc_new W5.drew _) hb6 (by simp) | exact obj_below (w := (W5.alloc _).drew) (heap_alloc_new W5 _) hb6 (by show _ < (W5.alloc _).heap.size; simp))
              have hb6 : Below W5.heap.size W5 w6 := (by first | exact ((Below.refl _ W5).drew.alloc (Nat.le_refl _) _).trans (hb6.mono (by simp)) | exact ((Below.refl _ W5).alloc (Nat.le_refl _) _).drew.trans (hb6.mono (by show _ ≤ (W5.alloc _).heap.size; simp)))
              have hps := (hb6.cell (p := ⟨g, 0, none⟩) zg).trans ps
              have hf0 := (hb6.cell (p := ⟨bx, 0, none⟩) zx).trans f0
              have b0_ := obj_cell hbox 0 _ rfl
              have b1_ := obj_cell hbox 1 _ rfl
              have b2_ := obj_cell hbox 2 _ rfl
              have g0_ := obj_free hbox 0
              have g1_ := obj_free hbox 1
              have g2_ := obj_free hbox 2
              have H6 := Lib.hid (And.intro hb6 hbox)
              clear hb6 hbox
              go_wp2_with fail
              refine hKR.out _ _ ?_ (fun hHeld => ?_)
              · exact ⟨hps, hf0⟩
              clear hKR KR
              try simp only [List.getElem_toArray, List.getElem_cons_zero, List.getElem_cons_succ, Act.put, List.setIfInBounds_toArray, List.set_cons_zero, List.set_cons_succ]
              refine wpAnyH_take (i := 7) (v := ?vkb107) rfl (by kernel_rfl) (by kernel_rfl) (by kernel_rfl) (fun _ _ _ h => h) (Or.inl ⟨by rfl, ?ykb107⟩) (by assumption) ?rkb107
              case ykb107 => (intro w' hSw; (try dsimp only at hSw); go_simp; with_reducible rfl)
              try simp only [List.getElem_toArray, List.getElem_cons_zero, List.getElem_cons_succ, Act.put, List.setIfInBounds_toArray, List.set_cons_zero, List.set_cons_succ]
              refine wpAnyH_take (i := 8) (v := ?vkb108) rfl (by kernel_rfl) (by kernel_rfl) (by kernel_rfl) (fun _ _ _ h => h) (Or.inl ⟨by rfl, ?ykb108⟩) (by assumption) ?rkb108
              case ykb108 => (intro w' hSw; (try dsimp only at hSw); go_simp; with_reducible rfl)
              try simp only [List.getElem_toArray, List.getElem_cons_zero, List.getElem_cons_succ, Act.put, List.setIfInBounds_toArray, List.set_cons_zero, List.set_cons_succ]
              refine wpAnyH_take (i := 9) (v := ?vkb109) rfl (by kernel_rfl) (by kernel_rfl) (by kernel_rfl) (fun _ _ _ h => h) (Or.inl ⟨by rfl, ?ykb109⟩) (by assumption) ?rkb109
              case ykb109 => (intro w' hSw; (try dsimp only at hSw); go_simp; with_reducible rfl)
              try simp only [List.getElem_toArray, List.getElem_cons_zero, List.getElem_cons_succ, Act.put, List.setIfInBounds_toArray, List.set_cons_zero, List.set_cons_succ]
              refine wpAnyH_ready (rs := [11]) (by kernel_rfl) (by simp) ?_
              refine AllReadyH.cons (o := _) rfl (fun KR hKR => ?ckb1011) ?nkb1011
              case nkb1011 => exact AllReadyH.nil
              go_simp
              refine hKR.out _ _ ?_ (fun hHeld => ?_)
              · exact ⟨((cell_other3 (Nat.ne_of_lt zg) _ _ _ _ _ _ _).trans hps), ((cell_other3 (Nat.ne_of_lt zx) _ _ _ _ _ _ _).trans hf0)⟩
              clear hKR KR
              try simp only [List.getElem_toArray, List.getElem_cons_zero, List.getElem_cons_succ, Act.put, List.setIfInBounds_toArray, List.set_cons_zero, List.set_cons_succ]
              refine wpAnyH_take (i := 12) (v := ?vkb1012) rfl (by kernel_rfl) (by kernel_rfl) (by kernel_rfl) (fun _ _ _ h => h) (Or.inl ⟨by rfl, ?ykb1012⟩) (by assumption) ?rkb1012
              case ykb1012 => (intro w' hSw; (try dsimp only at hSw); go_simp; with_reducible rfl)
              try simp only [List.getElem_toArray, List.getElem_cons_zero, List.getElem_cons_succ, Act.put, List.setIfInBounds_toArray, List.set_cons_zero, List.set_cons_succ]
              refine wpAnyH_done (by kernel_rfl) ?_ _
              refine NoPanic.normal ?_
              obtain ⟨W7, hW7⟩ : ∃ W7, (((w6.setCell ⟨W5.heap.size, 0, none⟩ (.string ⟨#[]⟩)).setCell ⟨W5.heap.size, 1, none⟩ (.int .i64 0)).setCell ⟨W5.heap.size, 2, none⟩ (.bool false)) = W7 := ⟨_, rfl⟩
              have hbx7 : W7.heap[W5.heap.size]? = some (.cells #[.string ⟨#[]⟩, .int .i64 0, .bool false] 76 (0, 0)) := by rw [← hW7]; exact obj_set3 H6.out.2 _ _ _
              have hb7 : Below W5.heap.size W5 W7 := by rw [← hW7]; exact below_set3 H6.out.1 (Nat.le_refl _) _ _ _
              rw [hW7]
              obtain ⟨by7, hby⟩ : ∃ b, W5.heap.size = b := ⟨_, rfl⟩
              rw [hby] at hbx7 ⊢
              have H7 := Lib.hid (And.intro hbx7 hb7)
              clear hbx7 hb7 hW7 hby H6 hps hf0 b0_ g0_ b1_ g1_ b2_ g2_
              go_wp2
              go_ret
              exact bB_mk HQ.out (HB.out.2.2.1.trans (H7.out.2.mono HB.out.2.2.1.size))
          | some t =>
            obtain ⟨tn, tr, tb⟩ := t
            rw [hsc] at HTy
            have HTy := Lib.hid (fun w' (hb' : Below W5.heap.size W5 w') => show Calls Tryz.prog 108 #[.pointer (some ⟨sb, 0, none⟩), .string ⟨pt.toArray⟩] w' (fun en w'' => en = .returned (.tuple #[.agg #[.string ⟨tn.toArray⟩, .int .i64 tr, .bool tb], .bool true]) ∧ Below w'.heap.size w' w'') from HTy.out w' hb')
            have HQ := Lib.hid (show f (pt, pv) = (geL A pt).any (sameQ tr pv) by rw [HF.out]; unfold nmP; rw [hsc])
            clear hsc
            go_wp2_with fail
            rw [HW5.out]
            clear hbx a0 a1
            have kps : ∀ ob, (W5.drew.alloc ob).cell? ⟨g, 0, none⟩ = some (.pointer (some ⟨sb, 0, none⟩)) := fun ob => (((Below.refl W5.heap.size W5).drew.alloc (Nat.le_refl _) ob).cell (p := ⟨g, 0, none⟩) zg).trans ps
            have kf0 : ∀ ob, (W5.drew.alloc ob).cell? ⟨bx, 0, none⟩ = some (.string ⟨pt.toArray⟩) := fun ob => (((Below.refl W5.heap.size W5).drew.alloc (Nat.le_refl _) ob).cell (p := ⟨bx, 0, none⟩) zx).trans f0
            refine wp_region_noPanic ?_
            refine wp_region_held_drew (S := fun w' => w'.cell? ⟨g, 0, none⟩ = some (.pointer (some ⟨sb, 0, none⟩)) ∧ w'.cell? ⟨bx, 0, none⟩ = some (.string ⟨pt.toArray⟩)) (by kernel_rfl) ?_ (fun hHeld => ?_)
            · exact ⟨ps, f0⟩
            refine wpAnyH_take (i := 0) (v := ?vl0) rfl (by kernel_rfl) (by kernel_rfl) (by kernel_rfl) (fun _ _ _ h => h) (Or.inl ⟨by rfl, ?yl0⟩) (by assumption) ?rl0
            case yl0 => (intro w' hSw; (try dsimp only at hSw); go_simp; with_reducible rfl)
            try simp only [List.getElem_toArray, List.getElem_cons_zero, List.getElem_cons_succ, Act.put, List.setIfInBounds_toArray, List.set_cons_zero, List.set_cons_succ]
            refine wpAnyH_take (i := 1) (v := ?vl1) rfl (by kernel_rfl) (by kernel_rfl) (by kernel_rfl) (fun _ _ _ h => h) (Or.inl ⟨by rfl, ?yl1⟩) (by assumption) ?rl1
            case yl1 => (intro w' hSw; (try dsimp only at hSw); go_simp; with_reducible rfl)
            try simp only [List.getElem_toArray, List.getElem_cons_zero, List.getElem_cons_succ, Act.put, List.setIfInBounds_toArray, List.set_cons_zero, List.set_cons_succ]
            refine wpAnyH_take (i := 2) (v := ?vl2) rfl (by kernel_rfl) (by kernel_rfl) (by kernel_rfl) (fun _ _ _ h => h) (Or.inl ⟨by rfl, ?yl2⟩) (by assumption) ?rl2
            case yl2 => (intro w' hSw; (try dsimp only at hSw); go_simp; with_reducible rfl)
            try simp only [List.getElem_toArray, List.getElem_cons_zero, List.getElem_cons_succ, Act.put, List.setIfInBounds_toArray, List.set_cons_zero, List.set_cons_succ]
            refine wpAnyH_take (i := 3) (v := ?vl3) rfl (by kernel_rfl) (by kernel_rfl) (by kernel_rfl) (fun _ _ _ h => h) (Or.inl ⟨by rfl, ?yl3⟩) (by assumption) ?rl3
            case yl3 => (intro w' hSw; (try dsimp only at hSw); go_simp; with_reducible rfl)
            try simp only [List.getElem_toArray, List.getElem_cons_zero, List.getElem_cons_succ, Act.put, List.setIfInBounds_toArray, List.set_cons_zero, List.set_cons_succ]
            refine wpAnyH_take (i := 4) (v := ?vl4) rfl (by kernel_rfl) (by kernel_rfl) (by kernel_rfl) (fun _ _ _ h => h) (Or.inl ⟨by rfl, ?yl4⟩) (by assumption) ?rl4
            case yl4 => (intro w' hSw; (try dsimp only at hSw); go_simp; with_reducible rfl)
            try simp only [List.getElem_toArray, List.getElem_cons_zero, List.getElem_cons_succ, Act.put, List.setIfInBounds_toArray, List.set_cons_zero, List.set_cons_succ]
            refine wpAnyH_take (i := 5) (v := ?vl5) rfl (by kernel_rfl) (by kernel_rfl) (by kernel_rfl) (fun _ _ _ h => h) (Or.inl ⟨by rfl, ?yl5⟩) (by assumption) ?rl5
            case yl5 => (intro w' hSw; (try dsimp only at hSw); go_simp; with_reducible rfl)
            try simp only [List.getElem_toArray, List.getElem_cons_zero, List.getElem_cons_succ, Act.put, List.setIfInBounds_toArray, List.set_cons_zero, List.set_cons_succ]
            refine wpAnyH_ready (rs := [6, 10]) (by kernel_rfl) (by simp) ?_
            refine (AllReadyH.cons (o := _) rfl (fun KR hKR => ?clb6) (AllReadyH.cons (o := _) rfl (fun KR hKR => ?clb10) AllReadyH.nil))
            case clb6 =>
              go_simp
              go_at_call 108
              with_reducible refine (HTy.out _ (by first | exact (Below.refl _ _).drew | exact Below.refl _ _)).mono ?_
              rintro en w6 ⟨rfl, hb6⟩
              have hb6 : Below W5.heap.size W5 w6 := (by first | exact (Below.refl _ W5).drew.trans hb6 | exact hb6)
              have hps := (hb6.cell (p := ⟨g, 0, none⟩) zg).trans ps
              have hf0 := (hb6.cell (p := ⟨bx, 0, none⟩) zx).trans f0
              have ips : ∀ ob, (w6.alloc ob).cell? ⟨g, 0, none⟩ = some (.pointer (some ⟨sb, 0, none⟩)) := fun ob => (((Below.refl w6.heap.size w6).alloc (Nat.le_refl _) ob).cell (p := ⟨g, 0, none⟩) (Nat.lt_of_lt_of_le zg hb6.size)).trans hps
              have if0 : ∀ ob, (w6.alloc ob).cell? ⟨bx, 0, none⟩ = some (.string ⟨pt.toArray⟩) := fun ob => (((Below.refl w6.heap.size w6).alloc (Nat.le_refl _) ob).cell (p := ⟨bx, 0, none⟩) (Nat.lt_of_lt_of_le zx hb6.size)).trans hf0
              have H6 := Lib.hid hb6
              clear hb6
              go_wp2_with fail
              refine hKR.out _ _ ?_ (fun hHeld => ?_)
              · exact ⟨hps, hf0⟩
              clear hKR KR
              try simp only [List.getElem_toArray, List.getElem_cons_zero, List.getElem_cons_succ, Act.put, List.setIfInBounds_toArray, List.set_cons_zero, List.set_cons_succ]
              refine wpAnyH_take (i := 7) (v := ?vlb67) rfl (by kernel_rfl) (by kernel_rfl) (by kernel_rfl) (fun _ _ _ h => h) (Or.inl ⟨by rfl, ?ylb67⟩) (by assumption) ?rlb67
              case ylb67 => (intro w' hSw; (try dsimp only at hSw); go_simp; with_reducible rfl)
              try simp only [List.getElem_toArray, List.getElem_cons_zero, List.getElem_cons_succ, Act.put, List.setIfInBounds_toArray, List.set_cons_zero, List.set_cons_succ]
              refine wpAnyH_take (i := 8) (v := ?vlb68) rfl (by kernel_rfl) (by kernel_rfl) (by kernel_rfl) (fun _ _ _ h => h) (Or.inl ⟨by rfl, ?ylb68⟩) (by assumption) ?rlb68
              case ylb68 => (intro w' hSw; (try dsimp only at hSw); go_simp; with_reducible rfl)
              try simp only [List.getElem_toArray, List.getElem_cons_zero, List.getElem_cons_succ, Act.put, List.setIfInBounds_toArray, List.set_cons_zero, List.set_cons_succ]
              refine wpAnyH_take (i := 9) (v := ?vlb69) rfl (by kernel_rfl) (by kernel_rfl) (by kernel_rfl) (fun _ _ _ h => h) (Or.inl ⟨by rfl, ?ylb69⟩) (by assumption) ?rlb69
              case ylb69 => (intro w' hSw; (try dsimp only at hSw); go_simp; with_reducible rfl)
              try simp only [List.getElem_toArray, List.getElem_cons_zero, List.getElem_cons_succ, Act.put, List.setIfInBounds_toArray, List.set_cons_zero, List.set_cons_succ]
              refine wpAnyH_ready (rs := [10]) (by kernel_rfl) (by simp) ?_
              refine AllReadyH.cons (o := _) rfl (fun KR hKR => ?clb610) ?nlb610
              case nlb610 => exact AllReadyH.nil
              go_simp
              refine hKR.out _ _ ?_ (fun hHeld => ?_)
              · exact ⟨ips _, if0 _⟩
              clear hKR KR
              try simp only [List.getElem_toArray, List.getElem_cons_zero, List.getElem_cons_succ, Act.put, List.setIfInBounds_toArray, List.set_cons_zero, List.set_cons_succ]
              refine wpAnyH_ready (rs := [11]) (by kernel_rfl) (by simp) ?_
              refine AllReadyH.cons (o := _) rfl (fun KR hKR => ?clb611) ?nlb611
              case nlb611 => exact AllReadyH.nil
              go_simp
              refine hKR.out _ _ ?_ (fun hHeld => ?_)
              · exact ⟨ips _, if0 _⟩
              clear hKR KR
              try simp only [List.getElem_toArray, List.getElem_cons_zero, List.getElem_cons_succ, Act.put, List.setIfInBounds_toArray, List.set_cons_zero, List.set_cons_succ]
              refine wpAnyH_take (i := 12) (v := ?vlb612) rfl (by kernel_rfl) (by kernel_rfl) (by kernel_rfl) (fun _ _ _ h => h) (Or.inl ⟨by rfl, ?ylb612⟩) (by assumption) ?rlb612
              case ylb612 => (intro w' hSw; (try dsimp only at hSw); go_simp; with_reducible rfl)
              try simp only [List.getElem_toArray, List.getElem_cons_zero, List.getElem_cons_succ, Act.put, List.setIfInBounds_toArray, List.set_cons_zero, List.set_cons_succ]
              refine wpAnyH_done (by kernel_rfl) ?_ _
              refine NoPanic.normal ?_
              obtain ⟨W7, hW7⟩ : ∃ W7, w6.alloc (.cells #[.string ⟨tn.toArray⟩, .int .i64 tr, .bool tb] 76) = W7 := ⟨_, rfl⟩
              have hbx7 : W7.heap[w6.heap.size]? = some (.cells #[.string ⟨tn.toArray⟩, .int .i64 tr, .bool tb] 76 (0, 0)) := by rw [← hW7]; exact heap_alloc_new w6 _
              have hb7 : Below W5.heap.size W5 W7 := by rw [← hW7]; exact H6.out.alloc H6.out.size _
              rw [hW7]
              obtain ⟨by7, hby⟩ : ∃ b, w6.heap.size = b := ⟨_, rfl⟩
              rw [hby] at hbx7 ⊢
              have H7 := Lib.hid (And.intro hbx7 hb7)
              clear hbx7 hb7 hW7 hby H6 hps ips hf0 if0
              have hbw7 : Below w.heap.size w W7 := HB.out.2.2.1.trans (H7.out.2.mono HB.out.2.2.1.size)
              have hbo7 : Below w4.heap.size w4 W7 := (HB.out.1.trans (HB.out.2.1.mono HB.out.1.size)).trans (H7.out.2.mono (Nat.le_trans HB.out.1.size HB.out.2.1.size))
              obtain ⟨m0, m1, m2⟩ := obj3 H7.out.1
              obtain ⟨x0, x1⟩ := obj2s (obj_below HX5.out H7.out.2 (obj_lt HX5.out))
              have f0 := (H7.out.2.cell (p := ⟨bx, 0, none⟩) zx).trans f0
              have f1 := (H7.out.2.cell (p := ⟨bx, 1, none⟩) zx).trans f1
              obtain ⟨q, hq⟩ : ∃ q, (geL A pt).any (sameQ tr pv) = q := ⟨_, rfl⟩
              have HHs := Lib.hid (HHas.out W7 hbw7 pt pv tr HPl.out)
              rw [hq] at HHs
              have HQ2 := Lib.hid hq
              have HBW := Lib.hid (And.intro hbw7 hbo7)
              clear hq hbw7 hbo7
              cases q with
              | false =>
                go_wp2_with fail
                refine HHs.out.mono ?_
                rintro en w8 ⟨rfl, hb8⟩
                have H8 := Lib.hid hb8
                clear hb8 m0 m1 m2 x0 x1 f0 f1
                go_wp2
                go_ret
                exact bB_mk (HB.out.2.2.2.2 (by rw [HQ.out, HQ2.out])) (HBW.out.1.trans (H8.out.mono HBW.out.1.size))
              | true =>
                go_wp2_with fail
                refine HHs.out.mono ?_
                rintro en w8 ⟨rfl, hb8⟩
                have H8 := Lib.hid hb8
                clear hb8 m0 m1 m2 x0 x1 f0 f1
                go_wp2
                exact ⟨⟨j + 1, by omega, by go_num, HBW.out.2.trans (H8.out.mono HBW.out.2.size), by rw [HB.out.2.2.2.1, HQ.out, HQ2.out]; rfl⟩, by simp [intOf]; omega⟩
            case clb10 =>
              go_simp
              refine hKR.out _ _ ?_ (fun hHeld => ?_)
              · exact ⟨kps _, kf0 _⟩
              clear hKR KR
              try simp only [List.getElem_toArray, List.getElem_cons_zero, List.getElem_cons_succ, Act.put, List.setIfInBounds_toArray, List.set_cons_zero, List.set_cons_succ]
              refine wpAnyH_ready (rs := [6]) (by kernel_rfl) (by simp) ?_
              refine AllReadyH.cons (o := _) rfl (fun KR hKR => ?clb106) ?nlb106
              case nlb106 => exact AllReadyH.nil
              go_simp
              go_at_call 108
              with_reducible refine (HTy.out _ (by first | exact ((Below.refl _ W5).drew.alloc (Nat.le_refl _) _) | exact ((Below.refl _ W5).alloc (Nat.le_refl _) _).drew | exact ((Below.refl _ W5).alloc (Nat.le_refl _) _))).mono ?_
              rintro en w6 ⟨rfl, hb6⟩
              have hbox : w6.heap[W5.heap.size]? = some (.cells #[.string ⟨#[]⟩, .int .i64 0, .bool false] 76 (0, 0)) := (by first | exact obj_below (heap_alloc_new W5.drew _) hb6 (by simp) | exact obj_below (w := (W5.alloc _).drew) (heap_alloc_new W5 _) hb6 (by show _ < (W5.alloc _).heap.size; simp))
              have hb6 : Below W5.heap.size W5 w6 := (by first | exact ((Below.refl _ W5).drew.alloc (Nat.le_refl _) _).trans (hb6.mono (by simp)) | exact ((Below.refl _ W5).alloc (Nat.le_refl _) _).drew.trans (hb6.mono (by show _ ≤ (W5.alloc _).heap.size; simp)))
              have hps := (hb6.cell (p := ⟨g, 0, none⟩) zg).trans ps
              have hf0 := (hb6.cell (p := ⟨bx, 0, none⟩) zx).trans f0
              have b0_ := obj_cell hbox 0 _ rfl
              have b1_ := obj_cell hbox 1 _ rfl
              have b2_ := obj_cell hbox 2 _ rfl
              have g0_ := obj_free hbox 0
              have g1_ := obj_free hbox 1
              have g2_ := obj_free hbox 2
              have H6 := Lib.hid (And.intro hb6 hbox)
              clear hb6 hbox
              go_wp2_with fail
              refine hKR.out _ _ ?_ (fun hHeld => ?_)
              · exact ⟨hps, hf0⟩
              clear hKR KR
              try simp only [List.getElem_toArray, List.getElem_cons_zero, List.getElem_cons_succ, Act.put, List.setIfInBounds_toArray, List.set_cons_zero, List.set_cons_succ]
              refine wpAnyH_take (i := 7) (v := ?vlb107) rfl (by kernel_rfl) (by kernel_rfl) (by kernel_rfl) (fun _ _ _ h => h) (Or.inl ⟨by rfl, ?ylb107⟩) (by assumption) ?rlb107
              case ylb107 => (intro w' hSw; (try dsimp only at hSw); go_simp; with_reducible rfl)
              try simp only [List.getElem_toArray, List.getElem_cons_zero, List.getElem_cons_succ, Act.put, List.setIfInBounds_toArray, List.set_cons_zero, List.set_cons_succ]
              refine wpAnyH_take (i := 8) (v := ?vlb108) rfl (by kernel_rfl) (by kernel_rfl) (by kernel_rfl) (fun _ _ _ h => h) (Or.inl ⟨by rfl, ?ylb108⟩) (by assumption) ?rlb108
              case ylb108 => (intro w' hSw; (try dsimp only at hSw); go_simp; with_reducible rfl)
              try simp only [List.getElem_toArray, List.getElem_cons_zero, List.getElem_cons_succ, Act.put, List.setIfInBounds_toArray, List.set_cons_zero, List.set_cons_succ]
              refine wpAnyH_take (i := 9) (v := ?vlb109) rfl (by kernel_rfl) (by kernel_rfl) (by kernel_rfl) (fun _ _ _ h => h) (Or.inl ⟨by rfl, ?ylb109⟩) (by assumption) ?rlb109
              case ylb109 => (intro w' hSw; (try dsimp only at hSw); go_simp; with_reducible rfl)
              try simp only [List.getElem_toArray, List.getElem_cons_zero, List.getElem_cons_succ, Act.put, List.setIfInBounds_toArray, List.set_cons_zero, List.set_cons_succ]
              refine wpAnyH_ready (rs := [11]) (by kernel_rfl) (by simp) ?_
              refine AllReadyH.cons (o := _) rfl (fun KR hKR => ?clb1011) ?nlb1011
              case nlb1011 => exact AllReadyH.nil
              go_simp
              refine hKR.out _ _ ?_ (fun hHeld => ?_)
              · exact ⟨((cell_other3 (Nat.ne_of_lt zg) _ _ _ _ _ _ _).trans hps), ((cell_other3 (Nat.ne_of_lt zx) _ _ _ _ _ _ _).trans hf0)⟩
              clear hKR KR
              try simp only [List.getElem_toArray, List.getElem_cons_zero, List.getElem_cons_succ, Act.put, List.setIfInBounds_toArray, List.set_cons_zero, List.set_cons_succ]
              refine wpAnyH_take (i := 12) (v := ?vlb1012) rfl (by kernel_rfl) (by kernel_rfl) (by kernel_rfl) (fun _ _ _ h => h) (Or.inl ⟨by rfl, ?ylb1012⟩) (by assumption) ?rlb1012
              case ylb1012 => (intro w' hSw; (try dsimp only at hSw); go_simp; with_reducible rfl)
              try simp only [List.getElem_toArray, List.getElem_cons_zero, List.getElem_cons_succ, Act.put, List.setIfInBounds_toArray, List.set_cons_zero, List.set_cons_succ]
              refine wpAnyH_done (by kernel_rfl) ?_ _
              refine NoPanic.normal ?_
              obtain ⟨W7, hW7⟩ : ∃ W7, (((w6.setCell ⟨W5.heap.size, 0, none⟩ (.string ⟨tn.toArray⟩)).setCell ⟨W5.heap.size, 1, none⟩ (.int .i64 tr)).setCell ⟨W5.heap.size, 2, none⟩ (.bool tb)) = W7 := ⟨_, rfl⟩
              have hbx7 : W7.heap[W5.heap.size]? = some (.cells #[.string ⟨tn.toArray⟩, .int .i64 tr, .bool tb] 76 (0, 0)) := by rw [← hW7]; exact obj_set3 H6.out.2 _ _ _
              have hb7 : Below W5.heap.size W5 W7 := by rw [← hW7]; exact below_set3 H6.out.1 (Nat.le_refl _) _ _ _
              rw [hW7]
              obtain ⟨by7, hby⟩ : ∃ b, W5.heap.size = b := ⟨_, rfl⟩
              rw [hby] at hbx7 ⊢
              have H7 := Lib.hid (And.intro hbx7 hb7)
              clear hbx7 hb7 hW7 hby H6 hps hf0 b0_ g0_ b1_ g1_ b2_ g2_
              have hbw7 : Below w.heap.size w W7 := HB.out.2.2.1.trans (H7.out.2.mono HB.out.2.2.1.size)
              have hbo7 : Below w4.heap.size w4 W7 := (HB.out.1.trans (HB.out.2.1.mono HB.out.1.size)).trans (H7.out.2.mono (Nat.le_trans HB.out.1.size HB.out.2.1.size))
              obtain ⟨m0, m1, m2⟩ := obj3 H7.out.1
              obtain ⟨x0, x1⟩ := obj2s (obj_below HX5.out H7.out.2 (obj_lt HX5.out))
              have f0 := (H7.out.2.cell (p := ⟨bx, 0, none⟩) zx).trans f0
              have f1 := (H7.out.2.cell (p := ⟨bx, 1, none⟩) zx).trans f1
              obtain ⟨q, hq⟩ : ∃ q, (geL A pt).any (sameQ tr pv) = q := ⟨_, rfl⟩
              have HHs := Lib.hid (HHas.out W7 hbw7 pt pv tr HPl.out)
              rw [hq] at HHs
              have HQ2 := Lib.hid hq
              have HBW := Lib.hid (And.intro hbw7 hbo7)
              clear hq hbw7 hbo7
              cases q with
              | false =>
                go_wp2_with fail
                refine HHs.out.mono ?_
                rintro en w8 ⟨rfl, hb8⟩
                have H8 := Lib.hid hb8
                clear hb8 m0 m1 m2 x0 x1 f0 f1
                go_wp2
                go_ret
                exact bB_mk (HB.out.2.2.2.2 (by rw [HQ.out, HQ2.out])) (HBW.out.1.trans (H8.out.mono HBW.out.1.size))
              | true =>
                go_wp2_with fail
                refine HHs.out.mono ?_
                rintro en w8 ⟨rfl, hb8⟩
                have H8 := Lib.hid hb8
                clear hb8 m0 m1 m2 x0 x1 f0 f1
                go_wp2
                exact ⟨⟨j + 1, by omega, by go_num, HBW.out.2.trans (H8.out.mono HBW.out.2.size), by rw [HB.out.2.2.2.1, HQ.out, HQ2.out]; rfl⟩, by simp [intOf]; omega⟩
        · obtain rfl : j = m := by omega
          have HE := Lib.hid (And.intro hb (show r.all f = true by rw [← HMl.out, List.take_length] at hall; exact hall))
          clear hb hall
          go_wp2
          exact ⟨⟨k + 1, by have := HBO.out.2; omega, by go_num, HE.out.1, fun _ => HE.out.2⟩, by have := HBO.out.2; simp [intOf]; omega⟩
    · obtain rfl : k = 1 := by omega
      have HE := Lib.hid (And.intro hbo (hall rfl))
      clear hbo hall
      go_wp2
      go_ret
      exact bB_mk HE.out.2 (HB4.out.2.trans (HE.out.1.mono HB4.out.2.size))
def ChkPost (n : Nat) (w : World) (en : Ending) (w' : World) : Prop := en = .returned (.int .i64 (n : Nat)) ∧ Below w.heap.size w w'
theorem chk_vals (T : List Ty) (C : List Cl) (A : List Atr) : chkS T C A ≤ 100 := by
  unfold chkS
  repeat' split
  all_goals omega
def FewZ (A : List Atr) : Prop := FewE A ∧ FewG 300 300 A
set_option maxHeartbeats 6400000 in
set_option maxRecDepth 100000 in
theorem dtchk_any (g sb : Nat) (m1 m2 : Value) (A : List Atr) (dn : List UInt8) (r : List Av) (D : List (List Av)) (av : Value) (w : World) (hg : w.heap[g]? = some (.cells #[.pointer (some ⟨sb, 0, none⟩), m1, m2] 69 (0, 0))) (hsc : ScAt w sb plT plC) (hA : EaAt w av A) (hf : FewZ A) (hn : nrD dn = some (r :: D)) (he : ErrOk w) :
    Calls Tryz.prog 43 #[.pointer (some ⟨g, 0, none⟩), .agg #[.string ⟨dn.toArray⟩, av]] w (ChkPost (chkE (dn, A)) w) := by
  have zg := obj_lt hg
  have ps0 := (obj3 hg).1
  obtain ⟨W0, hW0⟩ : ∃ W, w.alloc (.cells #[.string ⟨dn.toArray⟩, av] 39) = W := ⟨_, rfl⟩
  have hb0 : Below w.heap.size w W0 := by rw [← hW0]; exact (Below.refl _ w).alloc (Nat.le_refl _) _
  have hx0 : W0.heap[w.heap.size]? = some (.cells #[.string ⟨dn.toArray⟩, av] 39 (0, 0)) := by rw [← hW0]; exact heap_alloc_new w _
  have HCk := Lib.hid (fun w' (hb : Below w.heap.size w w') => scheck_any sb plT plC A ⟨dn.toArray⟩ av w' (scAt_below hsc hb) plT_lowT plC_lowC (by decide +kernel) (by decide +kernel) (eaAt_at (eaAt_below hA hb)) (by have := hf.1.1; omega) (fun a ha => by
    obtain ⟨h1, h2, h3⟩ := hf.1.2 a ha
    exact ⟨by omega, by omega, fun s hs => by have := h3 s hs; omega⟩) (by decide +kernel) (by decide +kernel) (errOk_below he hb))
  have HNm := Lib.hid (fun w' (hb : Below w.heap.size w w') => dtnmd_any g sb A dn r D av w' (((hb.cell (p := ⟨g, 0, none⟩) zg)).trans ps0) (Nat.lt_of_lt_of_le zg hb.size) (scAt_below hsc hb) (eaAt_below hA hb) hf.1 hn (errOk_below he hb))
  have hce : chkE (dn, A) = if chkS plT plC A ≠ 0 then chkS plT plC A else if nmgL A r = false then 64 else 0 := by
    unfold chkE nmgS
    simp only [hn]
  have hcv := chk_vals plT plC A
  obtain ⟨a, c, rfl⟩ := eaAt_slice hA
  obtain ⟨n, hnn⟩ : ∃ n, A.length = n := ⟨_, rfl⟩
  rw [hnn] at hW0 hx0 HNm HCk ⊢
  rw [hce]
  obtain ⟨q, hq⟩ : ∃ q, chkS plT plC A = q := ⟨_, rfl⟩
  obtain ⟨b, hb⟩ : ∃ b, nmgL A r = b := ⟨_, rfl⟩
  rw [hq] at HCk hcv ⊢
  rw [hb] at HNm ⊢
  obtain ⟨N, hN⟩ : ∃ N, (if q ≠ 0 then q else if b = false then 64 else 0) = N := ⟨_, rfl⟩
  have HNN := Lib.hid hN
  rw [hN]
  clear hN
  obtain ⟨d0, d1⟩ := obj2s hx0
  have zx := obj_lt hx0
  have ps := (hb0.cell (p := ⟨g, 0, none⟩) zg).trans ps0
  have zg0 := Nat.lt_of_lt_of_le zg hb0.size
  have HX := Lib.hid (And.intro hb0 hx0)
  have HW0 := Lib.hid hW0
  clear hsc hA hf hn he hnn hb0 hx0 hW0 hq hb hce hg ps0
  go_enter Tryz.func43, Tryz.ntmps43
  go_wp2_with fail
  rw [HW0.out]
  refine wp_region_noPanic ?_
  refine wp_region_held_drew (S := fun w' => w'.cell? ⟨g, 0, none⟩ = some (.pointer (some ⟨sb, 0, none⟩)) ∧ w'.cell? ⟨w.heap.size, 0, none⟩ = some (.string ⟨dn.toArray⟩) ∧ w'.cell? ⟨w.heap.size, 1, none⟩ = some (.slice a n c)) (by kernel_rfl) ?_ (fun hHeld => ?_)
  · exact ⟨ps, d0, d1⟩
  refine wpAnyH_take (i := 0) (v := ?vc0) rfl (by kernel_rfl) (by kernel_rfl) (by kernel_rfl) (fun _ _ _ h => h) (Or.inl ⟨by rfl, ?yc0⟩) (by assumption) ?rc0
  case yc0 => (intro w' hSw; (try dsimp only at hSw); go_simp; with_reducible rfl)
  try simp only [List.getElem_toArray, List.getElem_cons_zero, List.getElem_cons_succ, Act.put, List.setIfInBounds_toArray, List.set_cons_zero, List.set_cons_succ]
  refine wpAnyH_take (i := 1) (v := ?vc1) rfl (by kernel_rfl) (by kernel_rfl) (by kernel_rfl) (fun _ _ _ h => h) (Or.inl ⟨by rfl, ?yc1⟩) (by assumption) ?rc1
  case yc1 => (intro w' hSw; (try dsimp only at hSw); go_simp; with_reducible rfl)
  try simp only [List.getElem_toArray, List.getElem_cons_zero, List.getElem_cons_succ, Act.put, List.setIfInBounds_toArray, List.set_cons_zero, List.set_cons_succ]
  refine wpAnyH_take (i := 2) (v := ?vc2) rfl (by kernel_rfl) (by kernel_rfl) (by kernel_rfl) (fun _ _ _ h => h) (Or.inl ⟨by rfl, ?yc2⟩) (by assumption) ?rc2
  case yc2 => (intro w' hSw; (try dsimp only at hSw); go_simp; with_reducible rfl)
  try simp only [List.getElem_toArray, List.getElem_cons_zero, List.getElem_cons_succ, Act.put, List.setIfInBounds_toArray, List.set_cons_zero, List.set_cons_succ]
  refine wpAnyH_take (i := 3) (v := ?vc3) rfl (by kernel_rfl) (by kernel_rfl) (by kernel_rfl) (fun _ _ _ h => h) (Or.inl ⟨by rfl, ?yc3⟩) (by assumption) ?rc3
  case yc3 => (intro w' hSw; (try dsimp only at hSw); go_simp; with_reducible rfl)
  try simp only [List.getElem_toArray, List.getElem_cons_zero, List.getElem_cons_succ, Act.put, List.setIfInBounds_toArray, List.set_cons_zero, List.set_cons_succ]
  refine wpAnyH_take (i := 4) (v := ?vc4) rfl (by kernel_rfl) (by kernel_rfl) (by kernel_rfl) (fun _ _ _ h => h) (Or.inl ⟨by rfl, ?yc4⟩) (by assumption) ?rc4
  case yc4 => (intro w' hSw; (try dsimp only at hSw); go_simp; with_reducible rfl)
  try simp only [List.getElem_toArray, List.getElem_cons_zero, List.getElem_cons_succ, Act.put, List.setIfInBounds_toArray, List.set_cons_zero, List.set_cons_succ]
  refine wpAnyH_ready (rs := [5]) (by kernel_rfl) (by simp) ?_
  refine AllReadyH.cons (o := _) rfl (fun KR hKR => ?cc5) ?nc5
  case nc5 => exact AllReadyH.nil
  go_simp
  go_at_call 60
  with_reducible refine (HCk.out _ (by first | exact HX.out.1.drew | exact HX.out.1)).mono ?_
  rintro en w6 ⟨rfl, hb6⟩
  have hb6 : Below W0.heap.size W0 w6 := (by first | exact (Below.refl _ W0).drew.trans hb6 | exact hb6)
  have is := (hb6.cell (p := ⟨g, 0, none⟩) zg0).trans ps
  have i0 := (hb6.cell (p := ⟨w.heap.size, 0, none⟩) zx).trans d0
  have i1 := (hb6.cell (p := ⟨w.heap.size, 1, none⟩) zx).trans d1
  have H6 := Lib.hid (And.intro hb6 (HX.out.1.trans (hb6.mono HX.out.1.size)))
  clear hb6
  go_wp2_with fail
  refine hKR.out _ _ ?_ (fun hHeld => ?_)
  · exact ⟨is, i0, i1⟩
  clear hKR KR
  try simp only [List.getElem_toArray, List.getElem_cons_zero, List.getElem_cons_succ, Act.put, List.setIfInBounds_toArray, List.set_cons_zero, List.set_cons_succ]
  refine wpAnyH_take (i := 6) (v := ?vc6) rfl (by kernel_rfl) (by kernel_rfl) (by kernel_rfl) (fun _ _ _ h => h) (Or.inl ⟨by rfl, ?yc6⟩) (by assumption) ?rc6
  case yc6 => (intro w' hSw; (try dsimp only at hSw); go_simp; with_reducible rfl)
  try simp only [List.getElem_toArray, List.getElem_cons_zero, List.getElem_cons_succ, Act.put, List.setIfInBounds_toArray, List.set_cons_zero, List.set_cons_succ]
  refine wpAnyH_done (by kernel_rfl) ?_ _
  refine NoPanic.normal ?_
  by_cases hq0 : q = 0
  · subst hq0
    go_wp2_with fail
    refine (HNm.out w6 H6.out.2).mono ?_
    rintro en w8 ⟨rfl, hb8⟩
    have H8 := Lib.hid hb8
    clear hb8 i0 i1
    cases b with
    | true =>
      go_wp2
      go_ret
      exact ⟨by rw [← HNN.out]; rfl, H6.out.2.trans (H8.out.mono H6.out.2.size)⟩
    | false =>
      go_wp2
      go_ret
      exact ⟨by rw [← HNN.out]; rfl, H6.out.2.trans (H8.out.mono H6.out.2.size)⟩
  · have hqi : ((q : Int) != 0) = true := by simp; omega
    have HQ := Lib.hid (show N = q by rw [← HNN.out]; exact if_pos hq0)
    clear hq0 i0 i1
    go_wp2
    go_ret
    exact ⟨by rw [HQ.out]; rfl, H6.out.2⟩
end Go.Proofs.YtbmnpjkcomcboaaGreatDoor
