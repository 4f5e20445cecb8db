/- Is something there twice, and is there one value at most: the document. -/
import Derived.Test.YtcfckgpjdaadeaaGreatDoorScP
import Derived.Test.YtcfckgpjdaadeaaGreatDoorScAB
import Derived.Test.YtcfckgpjdaadeaaGreatDoorRuK
namespace Go.Proofs.YtcfckgpjdaadeaaGreatDoor
set_option linter.unusedSimpArgs false
set_option linter.unusedVariables false
open Go Go.RowKit Go.Proofs.BerK Go.Proofs.MemK Go.Proofs.UtfK

theorem boxes9 {w W1 : World} {a b : Array Value} {t u : TypeId} (h : (w.alloc (.cells a t)).alloc (.cells b u) = W1) : W1.heap[w.heap.size]? = some (.cells a t (0, 0)) ∧ W1.heap[w.heap.size + 1]? = some (.cells b u (0, 0)) ∧ Below w.heap.size w W1 ∧ W1.heap.size = w.heap.size + 2 := by
  subst h
  refine ⟨obj_alloc (heap_alloc_new w _) _, ?_, ((Below.refl _ w).alloc (Nat.le_refl _) _).alloc (by simp) _, by simp⟩
  have := heap_alloc_new (w.alloc (.cells a t)) (.cells b u)
  rw [World.size_alloc] at this
  exact this
theorem nmV_get (t : Ty) (a : Atr) (i : Nat) (h : i < a.2.length) : (nmV t a)[i]'(by simpa [nmV] using h) = (ruN t.2.1 a.2[i]).1 := by simp [nmV]
theorem dup_pair {t : Ty} {a : Atr} (p : Nat) (hp : p < a.2.length) (q : Nat) (hq : q < p) (h : ((ruN t.2.1 (a.2[q]'(by omega))).1 == (ruN t.2.1 a.2[p]).1) = true) : dupL (nmV t a) = true := by
  refine dup_yes (fun hn => ?_)
  have := (List.pairwise_iff_getElem.1 hn) q p (by simp [nmV]; omega) (by simpa [nmV] using hp) hq
  rw [nmV_get t a q (by omega), nmV_get t a p hp] at this
  exact this (by simpa using h)
theorem dup_nopair {t : Ty} {a : Atr} (h : ∀ p (hp : p < a.2.length) q (hq : q < p), ((ruN t.2.1 (a.2[q]'(by omega))).1 == (ruN t.2.1 a.2[p]).1) = false) : dupL (nmV t a) = false := by
  refine dup_no (List.pairwise_iff_getElem.2 (fun q p h1 h2 hq => ?_))
  have hp : p < a.2.length := by simpa [nmV] using h2
  rw [nmV_get t a q (by omega), nmV_get t a p hp]
  simpa using h p hp q hq
theorem on_twice {TL : List Ty} {A : List Atr} (h : ¬ (TL.map (·.1)).Nodup) : onS TL A = 20 := by unfold onS; rw [if_pos h]
theorem on_dup {TL : List Ty} {A : List Atr} (i : Nat) (h1 : i < TL.length) (h2 : i < A.length) (h : dupL (nmV TL[i] A[i]) = true) : onS TL A = 20 := by
  have hx : (nmG TL A).any dupL = true := by
    rw [List.any_eq_true]
    exact ⟨_, List.mem_iff_getElem.2 ⟨i, by simp [nmG]; omega, rfl⟩, by simpa [nmG] using h⟩
  unfold onS
  rw [hx]
  by_cases hn : ¬ (TL.map (·.1)).Nodup
  · rw [if_pos hn]
  · rw [if_neg hn]; rfl
theorem on_rest {TL : List Ty} {A : List Atr} (hn : (TL.map (·.1)).Nodup) (h : ∀ i (h1 : i < TL.length) (h2 : i < A.length), dupL (nmV TL[i] A[i]) = false) : onS TL A = if tmB TL (nmG TL A) = true then 19 else 0 := by
  have hx : (nmG TL A).any dupL = false := by
    rw [List.any_eq_false]
    intro x hx
    obtain ⟨i, hi, rfl⟩ := List.getElem_of_mem hx
    have := h i (by simp [nmG] at hi; omega) (by simp [nmG] at hi; omega)
    simpa [nmG] using this
  unfold onS
  rw [if_neg (by simpa using hn), hx]; rfl
theorem tv_one (b : Bool) : tv b = if b = true then 1 else 0 := rfl
set_option maxHeartbeats 12800000 in
set_option maxRecDepth 100000 in
theorem ronce9_any (T : List Ty) (A : List Atr) (tv cv av : Value) (dn : ByteArray) (w : World) (h : TyAt w tv T) (hA : AtAt w av A) (hlT : T.length ≤ 1000000) (hbT : ∀ t ∈ T, t.1.length ≤ 140737488355328) (hl : A.length ≤ 1000000)
    (hv : ∀ a ∈ A, a.1.length ≤ 140737488355328 ∧ a.2.length ≤ 1000000) (hall : tyAll T A = true) (hok : nmOk (A.map (tyG T)) A = true) :
    Calls Tryz.prog 80 #[.agg #[tv, cv], .agg #[.string dn, av]] w (ScI (onS (A.map (tyG T)) A : Nat) w) := by
  have HTy := Lib.hid (fun w' (hb : Below w.heap.size w w') s (hs : s.length ≤ 140737488355328) => rtype9_any T tv cv s w' (tyAt_below h hb) hlT hbT hs)
  obtain ⟨a, c, rfl, hcells⟩ := hA
  have HM := Lib.hid hcells
  have HV := Lib.hid hv
  have HSc := Lib.hid (show ∀ i (hi : i < A.length), scT T A[i].1 = some (tyG T A[i]) by
    intro i hi
    have := List.all_eq_true.1 hall _ (List.getElem_mem hi)
    obtain ⟨t, ht⟩ := Option.isSome_iff_exists.1 this
    simp [tyG, ht])
  have HOk := Lib.hid (show ∀ i (hi : i < A.length) j (hj : j < A[i].2.length), (ruN (tyG T A[i]).2.1 A[i].2[j]).2 = true by
    intro i hi j hj
    cases hq : (ruN (tyG T A[i]).2.1 A[i].2[j]).2
    · have := nmOk_bad (TL := A.map (tyG T)) (A := A) i (by simpa using hi) hi j hj (by simpa using hq)
      rw [this] at hok; cases hok
    · rfl)
  obtain ⟨TL, hTL⟩ : ∃ TL, A.map (tyG T) = TL := ⟨_, rfl⟩
  have HTL := Lib.hid (show TL.length = A.length ∧ ∀ i (h1 : i < TL.length) (h2 : i < A.length), TL[i] = tyG T A[i] by subst hTL; simp)
  rw [hTL]
  obtain ⟨NL, hNL⟩ : ∃ NL, TL.map (·.1) = NL := ⟨_, rfl⟩
  have HNL := Lib.hid (show NL.length = A.length ∧ ∀ i (h1 : i < NL.length) (h2 : i < A.length), NL[i] = (tyG T A[i]).1 by subst hNL hTL; simp)
  have HR1 := Lib.hid (show ¬ NL.Nodup → onS TL A = 20 from fun h => on_twice (by rw [hNL]; exact h))
  have HR2 := Lib.hid (fun i h1 h2 h => on_dup (TL := TL) (A := A) i h1 h2 h)
  have HR3 := Lib.hid (show NL.Nodup → _ → _ from fun h => on_rest (TL := TL) (A := A) (by rw [hNL]; exact h))
  have HTm := Lib.hid (fun i (h1 : i < TL.length) (h2 : i < A.length) (h : (TL[i].2.2 && decide (1 < A[i].2.length)) = true) => (show tmB TL (nmG TL A) = true from tm_at i h1 (by simp [nmG]; omega) (by simpa [nmG, nmV] using h)))
  have HTn := Lib.hid (fun (h : ∀ i (h1 : i < TL.length) (h2 : i < A.length), (TL[i].2.2 && decide (1 < A[i].2.length)) = false) => (show tmB TL (nmG TL A) = false from tm_no (fun i h1 h2 => by have := h i h1 (by simp [nmG] at h2; omega); simpa [nmG, nmV] using this)))
  obtain ⟨R, hR⟩ : ∃ R, onS TL A = R := ⟨_, rfl⟩
  rw [hR] at HR1 HR2 HR3 ⊢
  obtain ⟨n, hn⟩ : ∃ n, A.length = n := ⟨_, rfl⟩
  have HL := Lib.hid hn
  rw [hn] at hl ⊢
  obtain ⟨W1, hW1⟩ : ∃ W1, (w.alloc (.cells #[tv, cv] 32)).alloc (.cells #[.string dn, .slice a n c] 24) = W1 := ⟨_, rfl⟩
  have HX := Lib.hid (boxes9 hW1)
  have HW1 := Lib.hid hW1
  clear hcells hv hall hok hTL hNL hR hn hW1 h hbT
  go_enter Tryz.func80, Tryz.ntmps80
  go_wp2
  rw [HW1.out]
  go_loopw [5, 6] (fun sv v wr => ∃ i : Nat, i ≤ n ∧ v = .int .i64 (i : Nat) ∧ wr.ownsRow (w.heap.size + 2) 9 1 sv i (sc (NL.take i)) ∧ Below (w.heap.size + 2) W1 wr ∧ (NL.take i).Nodup ∧ ∀ j (h1 : j < TL.length) (h2 : j < A.length), j < i → dupL (nmV TL[j] A[j]) = false) (fun _ v _ => n - (intOf v).toNat)
  case atStart => exact ⟨0, by omega, rfl, World.ownsRow_nil _ _ _ _, Below.refl _ _, by simp, fun j _ _ h => by omega⟩
  case round =>
    obtain ⟨i, hi, rfl, hown, hb, hnd, hdup⟩ := hrel
    have hsr := hb.size
    have hs1 := HX.out.2.2.2
    have x0 := obj_below HX.out.1 hb (by omega)
    have x1 := obj_below HX.out.2.1 hb (by omega)
    have hbw := HX.out.2.2.1.trans (hb.mono (by omega))
    obtain ⟨b0, b1⟩ := obj2s x0
    obtain ⟨d0, d1⟩ := obj2s x1
    have z0 := obj_lt x0
    have z1 := obj_lt x1
    by_cases hlt : i < n
    · have hil : (i : Int) < (n : Int) := by omega
      have him : i < A.length := by rw [HL.out]; exact hlt
      have hiT : i < TL.length := by rw [HTL.out.1, HL.out]; exact hlt
      have hiN : i < NL.length := by rw [HNL.out.1, HL.out]; exact hlt
      obtain ⟨g, o, vl, rfl, hg, e0w, e1w, hvl⟩ := HM.out i him
      obtain ⟨va, vc, rfl, hvx⟩ := hvl
      have HVX := Lib.hid hvx
      have e0 := (hbw.cell (p := ⟨g, _, none⟩) hg).trans e0w
      have zg := Nat.lt_of_lt_of_le hg hbw.size
      have hbd := HV.out _ (List.getElem_mem him)
      have HSi := Lib.hid (HSc.out i him)
      have HRd := Lib.hid (HR2.out i hiT him)
      have HNi := Lib.hid (HNL.out.2 i hiN him)
      have HTi := Lib.hid (HTL.out.2 i hiT him)
      have HOi := Lib.hid (HOk.out i him)
      obtain ⟨m, hm⟩ : ∃ x, A[i].2.length = x := ⟨_, rfl⟩
      have HMl := Lib.hid hm
      rw [hm] at e1w hbd
      obtain ⟨nm, hnm⟩ : ∃ x, A[i].1 = x := ⟨_, rfl⟩
      rw [hnm] at e0 hbd HSi
      obtain ⟨⟨tn, tr, ts⟩, htt⟩ : ∃ t, tyG T A[i] = t := ⟨_, rfl⟩
      rw [htt] at HSi HNi HTi HOi
      have hT := fun w' (hb' : Below wr.heap.size wr w') => HTy.out w' (hbw.trans (hb'.mono hbw.size)) nm hbd.1
      rw [HSi.out] at hT
      have HT := Lib.hid (fun w' (hb' : Below wr.heap.size wr w') => (show Calls Tryz.prog 13 #[.agg #[tv, cv], .string ⟨nm.toArray⟩] w' (fun en w'' => en = .returned (.tuple #[.agg #[.string ⟨tn.toArray⟩, .int .i64 tr, .bool ts], .bool true]) ∧ Below w'.heap.size w' w'') from hT w' hb'))
      obtain ⟨ra, rc, rfl⟩ := ownsRow_slice hown
      have hbm := hbd.2
      have HE1 := Lib.hid e1w
      have HI := Lib.hid (And.intro hown (And.intro hb (And.intro hnd (And.intro hdup (And.intro x0 x1)))))
      have HBW := Lib.hid hbw
      clear hown hb hnd hdup x0 x1 hbw hvx e0w e1w hm hnm htt hT hbd
      have kb0 : ∀ ob, (wr.drew.alloc ob).cell? ⟨w.heap.size, 0, none⟩ = some (tv) := fun ob => (((Below.refl wr.drew.heap.size wr.drew).alloc (Nat.le_refl _) ob).cell (p := ⟨w.heap.size, _, none⟩) z0).trans b0
      have kb1 : ∀ ob, (wr.drew.alloc ob).cell? ⟨w.heap.size, 1, none⟩ = some (cv) := fun ob => (((Below.refl wr.drew.heap.size wr.drew).alloc (Nat.le_refl _) ob).cell (p := ⟨w.heap.size, _, none⟩) z0).trans b1
      have kd1 : ∀ ob, (wr.drew.alloc ob).cell? ⟨w.heap.size + 1, 1, none⟩ = some (.slice (some ⟨g, o, none⟩) n c) := fun ob => (((Below.refl wr.drew.heap.size wr.drew).alloc (Nat.le_refl _) ob).cell (p := ⟨w.heap.size + 1, _, none⟩) z1).trans d1
      have ke0 : ∀ ob, (wr.drew.alloc ob).cell? ⟨g, o + i * 2, none⟩ = some (.string ⟨nm.toArray⟩) := fun ob => (((Below.refl wr.drew.heap.size wr.drew).alloc (Nat.le_refl _) ob).cell (p := ⟨g, _, none⟩) zg).trans e0
      have ng : g ≠ wr.heap.size := Nat.ne_of_lt zg
      have nwheapsize : w.heap.size ≠ wr.heap.size := Nat.ne_of_lt z0
      have nwheapsize1 : w.heap.size + 1 ≠ wr.heap.size := Nat.ne_of_lt z1
      go_wp2_with fail
      go_region_held3 (fun w' => w'.cell? ⟨w.heap.size, 0, none⟩ = some (tv) ∧ w'.cell? ⟨w.heap.size, 1, none⟩ = some (cv) ∧ w'.cell? ⟨w.heap.size + 1, 1, none⟩ = some (.slice (some ⟨g, o, none⟩) n c) ∧ w'.cell? ⟨g, o + i * 2, none⟩ = some (.string ⟨nm.toArray⟩)) (first | exact ⟨hb0, hb1, hd1, he0⟩ | exact ⟨b0, b1, d1, e0⟩ | exact ⟨(ib0 _), (ib1 _), (id1 _), (ie0 _)⟩ | exact ⟨(kb0 _), (kb1 _), (kd1 _), (ke0 _)⟩ | exact ⟨((cell_other3 nwheapsize _ _ _ _ _ _ _).trans hb0), ((cell_other3 nwheapsize _ _ _ _ _ _ _).trans hb1), ((cell_other3 nwheapsize1 _ _ _ _ _ _ _).trans hd1), ((cell_other3 ng _ _ _ _ _ _ _).trans he0)⟩ | go_keep)
        (first | (go_at_call 13; (with_reducible refine (HT.out _ (by first | exact (Below.refl _ wr).drew | exact ((Below.refl _ wr).drew.alloc (Nat.le_refl _) _) | exact ((Below.refl _ wr).alloc (Nat.le_refl _) _).drew)).mono ?_); rintro en w5 ⟨rfl, hb5⟩; have hbV : Below wr.heap.size wr w5 := (by first | exact (Below.refl _ wr).drew.trans hb5 | exact ((Below.refl _ wr).drew.alloc (Nat.le_refl _) _).trans (hb5.mono (by simp)) | exact (((Below.refl _ wr).alloc (Nat.le_refl _) _).drew).trans (hb5.mono (by show _ ≤ (wr.alloc _).heap.size; simp))); have hb0 := (hbV.cell (p := ⟨w.heap.size, _, none⟩) z0).trans b0; have ib0 : ∀ ob, (w5.alloc ob).cell? ⟨w.heap.size, 0, none⟩ = some (tv) := (fun ob => (((Below.refl w5.heap.size w5).alloc (Nat.le_refl _) ob).cell (p := ⟨w.heap.size, _, none⟩) (Nat.lt_of_lt_of_le z0 hbV.size)).trans hb0); have hb1 := (hbV.cell (p := ⟨w.heap.size, _, none⟩) z0).trans b1; have ib1 : ∀ ob, (w5.alloc ob).cell? ⟨w.heap.size, 1, none⟩ = some (cv) := (fun ob => (((Below.refl w5.heap.size w5).alloc (Nat.le_refl _) ob).cell (p := ⟨w.heap.size, _, none⟩) (Nat.lt_of_lt_of_le z0 hbV.size)).trans hb1); have hd1 := (hbV.cell (p := ⟨w.heap.size + 1, _, none⟩) z1).trans d1; have id1 : ∀ ob, (w5.alloc ob).cell? ⟨w.heap.size + 1, 1, none⟩ = some (.slice (some ⟨g, o, none⟩) n c) := (fun ob => (((Below.refl w5.heap.size w5).alloc (Nat.le_refl _) ob).cell (p := ⟨w.heap.size + 1, _, none⟩) (Nat.lt_of_lt_of_le z1 hbV.size)).trans hd1); have he0 := (hbV.cell (p := ⟨g, _, none⟩) zg).trans e0; have ie0 : ∀ ob, (w5.alloc ob).cell? ⟨g, o + i * 2, none⟩ = some (.string ⟨nm.toArray⟩) := (fun ob => (((Below.refl w5.heap.size w5).alloc (Nat.le_refl _) ob).cell (p := ⟨g, _, none⟩) (Nat.lt_of_lt_of_le zg hbV.size)).trans he0); have HV5 := Lib.hid hbV; try (have hbox : w5.heap[wr.heap.size]? = some (.cells #[.string ⟨#[]⟩, .int .i64 0, .bool false] 35 (0, 0)) := (by first | exact obj_below (heap_alloc_new wr.drew _) hb5 (by simp) | exact obj_below (w := (wr.alloc _).drew) (heap_alloc_new wr _) hb5 (by show _ < (wr.alloc _).heap.size; simp)); have b0_ := obj_cell hbox 0 _ rfl; have f0_ := obj_free hbox 0; have b1_ := obj_cell hbox 1 _ rfl; have f1_ := obj_free hbox 1; have b2_ := obj_cell hbox 2 _ rfl; have f2_ := obj_free hbox 2; have HB5 := Lib.hid hbox; clear hbox); clear hb5 hbV))
      all_goals
        first
          | (obtain ⟨W7, hW7⟩ : ∃ W7, (((w5.setCell ⟨wr.heap.size, 0, none⟩ (.string ⟨tn.toArray⟩)).setCell ⟨wr.heap.size, 1, none⟩ (.int .i64 tr)).setCell ⟨wr.heap.size, 2, none⟩ (.bool ts)) = W7 := ⟨_, rfl⟩; have hbx : W7.heap[wr.heap.size]? = some (.cells #[.string ⟨tn.toArray⟩, .int .i64 tr, .bool ts] 35 (0, 0)) := (by rw [← hW7]; exact obj_set3 HB5.out _ _ _); have hb7 : Below wr.heap.size wr W7 := (by rw [← hW7]; exact below_set3 HV5.out (Nat.le_refl _) _ _ _); rw [hW7]; obtain ⟨bx, hbe⟩ : ∃ bx, wr.heap.size = bx := ⟨_, rfl⟩; have HBX := Lib.hid (show wr.heap.size ≤ bx by have := HV5.out.size; omega); rw [hbe] at hbx ⊢; have H7 := Lib.hid (And.intro hbx hb7); clear hbx hb7 hW7 hbe)
          | (obtain ⟨W7, hW7⟩ : ∃ W7, w5.alloc (.cells #[.string ⟨tn.toArray⟩, .int .i64 tr, .bool ts] 35) = W7 := ⟨_, rfl⟩; have hbx : W7.heap[w5.heap.size]? = some (.cells #[.string ⟨tn.toArray⟩, .int .i64 tr, .bool ts] 35 (0, 0)) := (by rw [← hW7]; exact heap_alloc_new w5 _); have hb7 : Below wr.heap.size wr W7 := (by rw [← hW7]; exact HV5.out.alloc HV5.out.size _); rw [hW7]; obtain ⟨bx, hbe⟩ : ∃ bx, w5.heap.size = bx := ⟨_, rfl⟩; have HBX := Lib.hid (show wr.heap.size ≤ bx by have := HV5.out.size; omega); rw [hbe] at hbx ⊢; have H7 := Lib.hid (And.intro hbx hb7); clear hbx hb7 hW7 hbe)
      all_goals
        try clear hb0 hb1 hd1 he0
        try clear ib0 ib1 id1 ie0
        try clear kb0 kb1 kd1 ke0
        try clear b0_ f0_
        try clear b1_ f1_
        try clear b2_ f2_
        try clear HB5
        try clear HV5
      all_goals
        have own7 := ownsRow_below HI.out.1 H7.out.2
        have hlN : (NL.take i).length = i := by rw [List.length_take]; omega
        have tx7 : TxR W7 (.slice ra i rc) (NL.take i) := by
          have := txR_owns (l := NL.take i) (by rw [hlN]; exact own7)
          exact this
        have hIn := rin_any (NL.take i) tn (.slice ra i rc) W7 tx7 (by rw [hlN]; omega)
        have hs7 := H7.out.2.size
        have HO7 := Lib.hid own7
        obtain ⟨c0, c1, c2⟩ := obj3 H7.out.1
        have hbl := HI.out.2.1
        have hB7 : Below (w.heap.size + 2) W1 W7 := hbl.trans (H7.out.2.mono (by omega))
        have HB7 := Lib.hid hB7
        clear own7 tx7 hlN hbl hB7
        cases hin : inL (NL.take i) tn
        case true =>
          rw [hin] at hIn
          have HIn := Lib.hid hIn
          have HR := Lib.hid (show R = 20 from HR1.out (fun hnn => by
            obtain ⟨q, hq⟩ : ∃ q, ixL (NL.take i) tn = some q := by
              have := ix_isSome (N := NL.take i) (s := tn)
              rw [hin] at this
              exact Option.isSome_iff_exists.1 this
            exact nodup_take_not hiN HNi.out hq hnn))
          have HBw := Lib.hid (HX.out.2.2.1.trans (HB7.out.mono (by omega)))
          clear hIn hin
          try clear b0 b1 d1 e0
          go_wp2_with fail
          refine HIn.out.mono ?_
          rintro en w8 ⟨rfl, hw⟩
          obtain rfl := hw.symm
          clear hw
          go_wp2
          go_ret
          exact scI_mk (by rw [HR.out]; rfl) HBw.out
        case false =>
          rw [hin] at hIn
          have HIn := Lib.hid hIn
          have hnd2 : (NL.take (i + 1)).Nodup := by
            rw [List.take_succ_eq_append_getElem hiN, HNi.out]
            refine nodup_snoc HI.out.2.2.1 ?_
            have := ix_isSome (N := NL.take i) (s := tn)
            rw [hin] at this
            cases hq : ixL (NL.take i) tn
            · rfl
            · rw [hq] at this; cases this
          have HND := Lib.hid hnd2
          have hsn : sc (NL.take (i + 1)) = sc (NL.take i) ++ [.string ⟨tn.toArray⟩] := by
            have := sc9_snoc (N := NL) i hiN
            rw [HNi.out] at this
            exact this
          have HSn := Lib.hid hsn
          have hbxl := obj_lt H7.out.1
          have hbw7 := HX.out.2.2.1.trans (HB7.out.mono (by omega))
          have HBw7 := Lib.hid hbw7
          have hz7 : w.heap.size + 2 ≤ W7.heap.size := by omega
          clear hIn hin hnd2 hsn hbw7
          try clear b0 b1 d1 e0
          go_wp2_with fail
          refine HIn.out.mono ?_
          rintro en w8 ⟨rfl, hw⟩
          obtain rfl := hw.symm
          clear hw
          go_wp2_with (at_builtin; refine wpList_pushc rfl (.tmp 37) (.tmp 40) 38 9 rfl (w.heap.size + 2) 1 16 _ Tryz.sninfo9 Tryz.underlying38 rfl (by decide) [_] rfl (by intro u hu; simp at hu; subst hu; rfl) (.slice ra i rc) i (sc (NL.take i)) rfl _ rfl rfl HO7.out (by unfold maxLen; omega) (by omega) hz7 ?_; intro v' w8 g1 g2 g3; obtain ⟨na, nc, rfl⟩ := ownsRow_slice g1; have hbx8 := obj_chg H7.out.1 g2 (fun e => by have := (HI.out.1.lt _ e.symm).2; have hh : wr.heap.size ≤ bx := HBX.out; omega); have hb78 : Below (w.heap.size + 2) W7 w8 := g2.toBelow hz7 (fun k _ hk => (HO7.out.lt k hk.symm).1); have y1 := obj_below HI.out.2.2.2.2.2 (H7.out.2) z1; have y1 := obj_below y1 hb78 (by omega); obtain ⟨d0, d1⟩ := obj2s y1; have e1 := ((HBw7.out.trans (hb78.mono (by omega))).cell (p := ⟨g, _, none⟩) hg).trans HE1.out; have H8 := Lib.hid (And.intro g1 (And.intro hbx8 (And.intro (HB7.out.trans hb78) y1))); have hz8 := g2.size; clear g1 g2 g3 hbx8 hb78 y1)
          clear d0 d1 e1
          go_loopw [10] (fun v wz => ∃ k : Nat, k ≤ m ∧ v = .int .i64 (k : Nat) ∧ Below w8.heap.size w8 wz ∧ ∀ p (hp : p < A[i].2.length) q (hq : q < p), p < k → ((ruN tr (A[i].2[q]'(by omega))).1 == (ruN tr A[i].2[p]).1) = false) (fun v _ => m - (intOf v).toNat)
          case atStart => exact ⟨0, by omega, rfl, Below.refl _ _, fun p _ _ _ h => by omega⟩
          case round =>
            obtain ⟨k, hk, rfl, hbz, hne⟩ := hrel
            by_cases hkm : k < m
            · have hkl : (k : Int) < (m : Int) := by omega
              have hkA : k < A[i].2.length := by rw [HMl.out]; exact hkm
              have HBz := Lib.hid hbz
              have HNE := Lib.hid hne
              clear hbz hne
              go_wp2
              go_loopw [11] (fun v wy => ∃ j : Nat, j ≤ k ∧ v = .int .i64 (j : Nat) ∧ Below w8.heap.size w8 wy ∧ ∀ q (hq : q < k), q < j → ((ruN tr (A[i].2[q]'(by omega))).1 == (ruN tr A[i].2[k]).1) = false) (fun v _ => k - (intOf v).toNat)
              case atStart => exact ⟨0, by omega, rfl, HBz.out, fun q _ h => by omega⟩
              case round =>
                obtain ⟨j, hj, rfl, hby, hnq⟩ := hrel
                by_cases hjk : j < k
                · have hjl : (j : Int) < (k : Int) := by omega
                  have hjm : (j : Int) < (m : Int) := by omega
                  have hjA : j < A[i].2.length := by omega
                  have hbY : Below w.heap.size w wr := (HX.out.2.2.1.trans (H8.out.2.2.1.mono (by omega))).trans (hby.mono (by omega))
                  obtain ⟨g3, o3, hva, hg3, v0w⟩ := HVX.out j hjA
                  obtain ⟨g4, o4, hva2, _, v1w⟩ := HVX.out k hkA
                  subst hva
                  injection hva2 with hva2
                  injection hva2 with h1 h2
                  subst h1 h2
                  have v0 := (hbY.cell (p := ⟨g3, _, none⟩) hg3).trans v0w
                  have v1 := (hbY.cell (p := ⟨g3, _, none⟩) hg3).trans v1w
                  obtain ⟨c0, c1, c2⟩ := obj3 (obj_below H8.out.2.1 hby (obj_lt H8.out.2.1))
                  have ho1 := HOi.out j hjA
                  have ho2 := HOi.out k hkA
                  have HHit := Lib.hid (fun (hh : ((ruN tr (A[i].2[j]'hjA)).1 == (ruN tr (A[i].2[k]'hkA)).1) = true) => dup_pair (t := (tn, tr, ts)) (a := A[i]) k hkA j hjk hh)
                  have HNx := Lib.hid (fun (hx : ((ruN tr (A[i].2[j]'(by omega))).1 == (ruN tr A[i].2[k]).1) = false) q (hq : q < k) (h : q < j + 1) => (show ((ruN tr (A[i].2[q]'(by omega))).1 == (ruN tr A[i].2[k]).1) = false by
                    by_cases e : q = j
                    · subst e; exact hx
                    · exact hnq q hq (by omega)))
                  obtain ⟨x, hx⟩ : ∃ x, A[i].2[j] = x := ⟨_, rfl⟩
                  obtain ⟨y, hy⟩ : ∃ x, A[i].2[k] = x := ⟨_, rfl⟩
                  have HXY := Lib.hid (And.intro hx hy)
                  rw [hx] at v0 ho1
                  rw [hy] at v1 ho2
                  have zg3 := Nat.lt_of_lt_of_le hg3 hbY.size
                  have zbx : bx < wr.heap.size := Nat.lt_of_lt_of_le (obj_lt H8.out.2.1) hby.size
                  have hEq := fun w' => rrequal_any tr x y w'
                  obtain ⟨⟨X, p1⟩, hX⟩ : ∃ p, ruN tr x = p := ⟨_, rfl⟩
                  obtain ⟨⟨Y, p2⟩, hY⟩ : ∃ p, ruN tr y = p := ⟨_, rfl⟩
                  simp only [hX] at hEq; rw [hX] at ho1
                  simp only [hY] at hEq; rw [hY] at ho2
                  simp only at ho1 ho2
                  subst ho1 ho2
                  simp only [eqP_one] at hEq
                  have HQ := Lib.hid (show ((ruN tr A[i].2[j]).1 == (ruN tr A[i].2[k]).1) = (X == Y) by rw [HXY.out.1, HXY.out.2, hX, hY])
                  have HBy := Lib.hid hby
                  have HBYw := Lib.hid hbY
                  clear hby hnq v0w v1w hx hy hX hY hbY
                  cases hq : (X == Y)
                  · simp only [hq] at hEq
                    have HEq := Lib.hid (fun w' => (show Calls Tryz.prog 113 #[.int .i64 tr, .string ⟨x.toArray⟩, .string ⟨y.toArray⟩] w' (IPost 0 w') from hEq w'))
                    have HN := Lib.hid (HNx.out (by rw [HQ.out]; exact hq))
                    clear hEq hq
                    go_wp2_with fail
                    go_region_held3 (fun w' => w'.cell? ⟨bx, 1, none⟩ = some (.int .i64 tr) ∧ w'.cell? ⟨g3, o3 + j, none⟩ = some (.string ⟨x.toArray⟩) ∧ w'.cell? ⟨g3, o3 + k, none⟩ = some (.string ⟨y.toArray⟩)) (first | exact ⟨hc1, hv0, hv1⟩ | exact ⟨c1, v0, v1⟩ | go_keep)
                      (first | (go_at_call 113; (with_reducible refine (HEq.out _).mono ?_); rintro en w9 ⟨rfl, hb9⟩; have hbV : Below wr.heap.size wr w9 := (Below.refl _ wr).drew.trans hb9; have hc1 := (hbV.cell (p := ⟨bx, _, none⟩) zbx).trans c1; have hv0 := (hbV.cell (p := ⟨g3, _, none⟩) zg3).trans v0; have hv1 := (hbV.cell (p := ⟨g3, _, none⟩) zg3).trans v1; clear hb9))
                    have HB9 := Lib.hid (HBy.out.trans (hbV.mono HBy.out.size))
                    clear hbV hc1 hv0 hv1 v0 v1 c0 c1 c2
                    go_wp2
                    exact ⟨⟨j + 1, by omega, by go_num, HB9.out, HN.out⟩, by simp [intOf]; omega⟩
                  · simp only [hq] at hEq
                    have HEq := Lib.hid (fun w' => (show Calls Tryz.prog 113 #[.int .i64 tr, .string ⟨x.toArray⟩, .string ⟨y.toArray⟩] w' (IPost 1 w') from hEq w'))
                    have HR := Lib.hid (show R = 20 from HRd.out (by rw [HTi.out, ]; exact HHit.out (by rw [← hq, ← HQ.out])))
                    clear hEq hq
                    go_wp2_with fail
                    go_region_held3 (fun w' => w'.cell? ⟨bx, 1, none⟩ = some (.int .i64 tr) ∧ w'.cell? ⟨g3, o3 + j, none⟩ = some (.string ⟨x.toArray⟩) ∧ w'.cell? ⟨g3, o3 + k, none⟩ = some (.string ⟨y.toArray⟩)) (first | exact ⟨hc1, hv0, hv1⟩ | exact ⟨c1, v0, v1⟩ | go_keep)
                      (first | (go_at_call 113; (with_reducible refine (HEq.out _).mono ?_); rintro en w9 ⟨rfl, hb9⟩; have hbV : Below wr.heap.size wr w9 := (Below.refl _ wr).drew.trans hb9; have hc1 := (hbV.cell (p := ⟨bx, _, none⟩) zbx).trans c1; have hv0 := (hbV.cell (p := ⟨g3, _, none⟩) zg3).trans v0; have hv1 := (hbV.cell (p := ⟨g3, _, none⟩) zg3).trans v1; clear hb9))
                    have HB9 := Lib.hid (HBYw.out.trans (hbV.mono HBYw.out.size))
                    clear hbV hc1 hv0 hv1 v0 v1 c0 c1 c2
                    go_wp2
                    go_ret
                    exact scI_mk (by rw [HR.out]; rfl) HB9.out
                · obtain rfl : j = k := by omega
                  have HF := Lib.hid (show ∀ p (hp : p < A[i].2.length) q (hq : q < p), p < j + 1 → ((ruN tr (A[i].2[q]'(by omega))).1 == (ruN tr A[i].2[p]).1) = false from fun p hp q hq h => by
                    by_cases e : p = j
                    · subst e; exact hnq q hq hq
                    · exact HNE.out p hp q hq (by omega))
                  have HBy := Lib.hid hby
                  clear hby hnq
                  go_wp2
                  exact ⟨⟨j + 1, by omega, by go_num, HBy.out, HF.out⟩, by simp [intOf]; omega⟩
            · obtain rfl : k = m := by omega
              have hown2 := ownsRow_below H8.out.1 hbz
              have hd : dupL (nmV TL[i] A[i]) = false := by
                rw [HTi.out]
                exact dup_nopair (t := (tn, tr, ts)) (a := A[i]) (fun p hp q hq => hne p hp q hq (by rw [← HMl.out]; exact hp))
              have HF := Lib.hid (show ∀ j (h1 : j < TL.length) (h2 : j < A.length), j < i + 1 → dupL (nmV TL[j] A[j]) = false from fun j h1 h2 h => by
                by_cases e : j = i
                · subst e; exact hd
                · exact HI.out.2.2.2.1 j h1 h2 (by omega))
              have HG := Lib.hid (And.intro (show wr.ownsRow (w.heap.size + 2) 9 1 (.slice na (i + 1) nc) (i + 1) (sc (NL.take (i + 1))) by rw [HSn.out]; exact hown2) (H8.out.2.2.1.trans (hbz.mono (by omega))))
              clear hbz hne hown2 hd
              go_wp2
              exact ⟨⟨i + 1, by omega, by go_num, HG.out.1, HG.out.2, HND.out, HF.out⟩, by simp [intOf]; omega⟩
    · obtain rfl : i = n := by omega
      have hnl : NL.take i = NL := List.take_of_length_le (by rw [HNL.out.1, HL.out]; exact Nat.le_refl _)
      rw [hnl] at hnd
      have HR4 := Lib.hid (HR3.out hnd (fun j h1 h2 => hdup j h1 h2 (by rw [← HL.out]; exact h2)))
      obtain ⟨ra, rc, rfl⟩ := ownsRow_slice hown
      have HB2 := Lib.hid hb
      clear hown hb hnd hdup x0 x1 hbw hnl
      go_wp2
      clear b0 b1 d0 d1
      go_loopw [12] (fun v wz => ∃ k : Nat, k ≤ i ∧ v = .int .i64 (k : Nat) ∧ Below (w.heap.size + 2) W1 wz ∧ ∀ j (h1 : j < TL.length) (h2 : j < A.length), j < k → (TL[j].2.2 && decide (1 < A[j].2.length)) = false) (fun v _ => i - (intOf v).toNat)
      case atStart => exact ⟨0, by omega, rfl, HB2.out, fun j _ _ h => by omega⟩
      case round =>
        obtain ⟨k, hk, rfl, hb, htm⟩ := hrel
        have hsr := hb.size
        have x0 := obj_below HX.out.1 hb (by omega)
        have x1 := obj_below HX.out.2.1 hb (by omega)
        have hbw := HX.out.2.2.1.trans (hb.mono (by omega))
        obtain ⟨b0, b1⟩ := obj2s x0
        obtain ⟨d0, d1⟩ := obj2s x1
        have z0 := obj_lt x0
        have z1 := obj_lt x1
        by_cases hlk : k < i
        · have hkl : (k : Int) < (i : Int) := by omega
          have hkm : k < A.length := by rw [HL.out]; exact hlk
          have hkT : k < TL.length := by rw [HTL.out.1, HL.out]; exact hlk
          obtain ⟨g, o, vl, rfl, hg, e0w, e1w, hvl⟩ := HM.out k hkm
          obtain ⟨va, vc, rfl, hvx⟩ := hvl
          have e0 := (hbw.cell (p := ⟨g, _, none⟩) hg).trans e0w
          have zg := Nat.lt_of_lt_of_le hg hbw.size
          have hbd := HV.out _ (List.getElem_mem hkm)
          have HSi := Lib.hid (HSc.out k hkm)
          have HTi := Lib.hid (HTL.out.2 k hkT hkm)
          have HHit := Lib.hid (HTm.out k hkT hkm)
          have HNx := Lib.hid (fun (hx : (TL[k].2.2 && decide (1 < A[k].2.length)) = false) j (h1 : j < TL.length) (h2 : j < A.length) (h : j < k + 1) => (show (TL[j].2.2 && decide (1 < A[j].2.length)) = false by
            by_cases e : j = k
            · subst e; exact hx
            · exact htm j h1 h2 (by omega)))
          obtain ⟨m, hm⟩ : ∃ x, A[k].2.length = x := ⟨_, rfl⟩
          have HMl := Lib.hid hm
          rw [hm] at e1w
          obtain ⟨nm, hnm⟩ : ∃ x, A[k].1 = x := ⟨_, rfl⟩
          rw [hnm] at e0 hbd HSi
          obtain ⟨⟨tn, tr, ts⟩, htt⟩ : ∃ t, tyG T A[k] = t := ⟨_, rfl⟩
          rw [htt] at HSi HTi
          have hT := fun w' (hb' : Below wr.heap.size wr w') => HTy.out w' (hbw.trans (hb'.mono hbw.size)) nm hbd.1
          rw [HSi.out] at hT
          have HT := Lib.hid (fun w' (hb' : Below wr.heap.size wr w') => (show Calls Tryz.prog 13 #[.agg #[tv, cv], .string ⟨nm.toArray⟩] w' (fun en w'' => en = .returned (.tuple #[.agg #[.string ⟨tn.toArray⟩, .int .i64 tr, .bool ts], .bool true]) ∧ Below w'.heap.size w' w'') from hT w' hb'))
          have HE1 := Lib.hid e1w
          have HI := Lib.hid (And.intro hb (And.intro x1 hbw))
          clear hb x0 x1 hbw hvx e0w e1w hm hnm htt hT hbd htm
          have kb0 : ∀ ob, (wr.drew.alloc ob).cell? ⟨w.heap.size, 0, none⟩ = some (tv) := fun ob => (((Below.refl wr.drew.heap.size wr.drew).alloc (Nat.le_refl _) ob).cell (p := ⟨w.heap.size, _, none⟩) z0).trans b0
          have kb1 : ∀ ob, (wr.drew.alloc ob).cell? ⟨w.heap.size, 1, none⟩ = some (cv) := fun ob => (((Below.refl wr.drew.heap.size wr.drew).alloc (Nat.le_refl _) ob).cell (p := ⟨w.heap.size, _, none⟩) z0).trans b1
          have kd1 : ∀ ob, (wr.drew.alloc ob).cell? ⟨w.heap.size + 1, 1, none⟩ = some (.slice (some ⟨g, o, none⟩) i c) := fun ob => (((Below.refl wr.drew.heap.size wr.drew).alloc (Nat.le_refl _) ob).cell (p := ⟨w.heap.size + 1, _, none⟩) z1).trans d1
          have ke0 : ∀ ob, (wr.drew.alloc ob).cell? ⟨g, o + k * 2, none⟩ = some (.string ⟨nm.toArray⟩) := fun ob => (((Below.refl wr.drew.heap.size wr.drew).alloc (Nat.le_refl _) ob).cell (p := ⟨g, _, none⟩) zg).trans e0
          have ng : g ≠ wr.heap.size := Nat.ne_of_lt zg
          have nwheapsize : w.heap.size ≠ wr.heap.size := Nat.ne_of_lt z0
          have nwheapsize1 : w.heap.size + 1 ≠ wr.heap.size := Nat.ne_of_lt z1
          go_wp2_with fail
          go_region_held3 (fun w' => w'.cell? ⟨w.heap.size, 0, none⟩ = some (tv) ∧ w'.cell? ⟨w.heap.size, 1, none⟩ = some (cv) ∧ w'.cell? ⟨w.heap.size + 1, 1, none⟩ = some (.slice (some ⟨g, o, none⟩) i c) ∧ w'.cell? ⟨g, o + k * 2, none⟩ = some (.string ⟨nm.toArray⟩)) (first | exact ⟨hb0, hb1, hd1, he0⟩ | exact ⟨b0, b1, d1, e0⟩ | exact ⟨(ib0 _), (ib1 _), (id1 _), (ie0 _)⟩ | exact ⟨(kb0 _), (kb1 _), (kd1 _), (ke0 _)⟩ | exact ⟨((cell_other3 nwheapsize _ _ _ _ _ _ _).trans hb0), ((cell_other3 nwheapsize _ _ _ _ _ _ _).trans hb1), ((cell_other3 nwheapsize1 _ _ _ _ _ _ _).trans hd1), ((cell_other3 ng _ _ _ _ _ _ _).trans he0)⟩ | go_keep)
            (first | (go_at_call 13; (with_reducible refine (HT.out _ (by first | exact (Below.refl _ wr).drew | exact ((Below.refl _ wr).drew.alloc (Nat.le_refl _) _) | exact ((Below.refl _ wr).alloc (Nat.le_refl _) _).drew)).mono ?_); rintro en w5 ⟨rfl, hb5⟩; have hbV : Below wr.heap.size wr w5 := (by first | exact (Below.refl _ wr).drew.trans hb5 | exact ((Below.refl _ wr).drew.alloc (Nat.le_refl _) _).trans (hb5.mono (by simp)) | exact (((Below.refl _ wr).alloc (Nat.le_refl _) _).drew).trans (hb5.mono (by show _ ≤ (wr.alloc _).heap.size; simp))); have hb0 := (hbV.cell (p := ⟨w.heap.size, _, none⟩) z0).trans b0; have ib0 : ∀ ob, (w5.alloc ob).cell? ⟨w.heap.size, 0, none⟩ = some (tv) := (fun ob => (((Below.refl w5.heap.size w5).alloc (Nat.le_refl _) ob).cell (p := ⟨w.heap.size, _, none⟩) (Nat.lt_of_lt_of_le z0 hbV.size)).trans hb0); have hb1 := (hbV.cell (p := ⟨w.heap.size, _, none⟩) z0).trans b1; have ib1 : ∀ ob, (w5.alloc ob).cell? ⟨w.heap.size, 1, none⟩ = some (cv) := (fun ob => (((Below.refl w5.heap.size w5).alloc (Nat.le_refl _) ob).cell (p := ⟨w.heap.size, _, none⟩) (Nat.lt_of_lt_of_le z0 hbV.size)).trans hb1); have hd1 := (hbV.cell (p := ⟨w.heap.size + 1, _, none⟩) z1).trans d1; have id1 : ∀ ob, (w5.alloc ob).cell? ⟨w.heap.size + 1, 1, none⟩ = some (.slice (some ⟨g, o, none⟩) i c) := (fun ob => (((Below.refl w5.heap.size w5).alloc (Nat.le_refl _) ob).cell (p := ⟨w.heap.size + 1, _, none⟩) (Nat.lt_of_lt_of_le z1 hbV.size)).trans hd1); have he0 := (hbV.cell (p := ⟨g, _, none⟩) zg).trans e0; have ie0 : ∀ ob, (w5.alloc ob).cell? ⟨g, o + k * 2, none⟩ = some (.string ⟨nm.toArray⟩) := (fun ob => (((Below.refl w5.heap.size w5).alloc (Nat.le_refl _) ob).cell (p := ⟨g, _, none⟩) (Nat.lt_of_lt_of_le zg hbV.size)).trans he0); have HV5 := Lib.hid hbV; try (have hbox : w5.heap[wr.heap.size]? = some (.cells #[.string ⟨#[]⟩, .int .i64 0, .bool false] 35 (0, 0)) := (by first | exact obj_below (heap_alloc_new wr.drew _) hb5 (by simp) | exact obj_below (w := (wr.alloc _).drew) (heap_alloc_new wr _) hb5 (by show _ < (wr.alloc _).heap.size; simp)); have b0_ := obj_cell hbox 0 _ rfl; have f0_ := obj_free hbox 0; have b1_ := obj_cell hbox 1 _ rfl; have f1_ := obj_free hbox 1; have b2_ := obj_cell hbox 2 _ rfl; have f2_ := obj_free hbox 2; have HB5 := Lib.hid hbox; clear hbox); clear hb5 hbV))
          all_goals
            first
              | (obtain ⟨W7, hW7⟩ : ∃ W7, (((w5.setCell ⟨wr.heap.size, 0, none⟩ (.string ⟨tn.toArray⟩)).setCell ⟨wr.heap.size, 1, none⟩ (.int .i64 tr)).setCell ⟨wr.heap.size, 2, none⟩ (.bool ts)) = W7 := ⟨_, rfl⟩; have hbx : W7.heap[wr.heap.size]? = some (.cells #[.string ⟨tn.toArray⟩, .int .i64 tr, .bool ts] 35 (0, 0)) := (by rw [← hW7]; exact obj_set3 HB5.out _ _ _); have hb7 : Below wr.heap.size wr W7 := (by rw [← hW7]; exact below_set3 HV5.out (Nat.le_refl _) _ _ _); rw [hW7]; obtain ⟨bx, hbe⟩ : ∃ bx, wr.heap.size = bx := ⟨_, rfl⟩; have HBX := Lib.hid (show wr.heap.size ≤ bx by have := HV5.out.size; omega); rw [hbe] at hbx ⊢; have H7 := Lib.hid (And.intro hbx hb7); clear hbx hb7 hW7 hbe)
              | (obtain ⟨W7, hW7⟩ : ∃ W7, w5.alloc (.cells #[.string ⟨tn.toArray⟩, .int .i64 tr, .bool ts] 35) = W7 := ⟨_, rfl⟩; have hbx : W7.heap[w5.heap.size]? = some (.cells #[.string ⟨tn.toArray⟩, .int .i64 tr, .bool ts] 35 (0, 0)) := (by rw [← hW7]; exact heap_alloc_new w5 _); have hb7 : Below wr.heap.size wr W7 := (by rw [← hW7]; exact HV5.out.alloc HV5.out.size _); rw [hW7]; obtain ⟨bx, hbe⟩ : ∃ bx, w5.heap.size = bx := ⟨_, rfl⟩; have HBX := Lib.hid (show wr.heap.size ≤ bx by have := HV5.out.size; omega); rw [hbe] at hbx ⊢; have H7 := Lib.hid (And.intro hbx hb7); clear hbx hb7 hW7 hbe)
          all_goals
            try clear hb0 hb1 hd1 he0
            try clear ib0 ib1 id1 ie0
            try clear kb0 kb1 kd1 ke0
            try clear b0_ f0_
            try clear b1_ f1_
            try clear b2_ f2_
            try clear HB5
            try clear HV5
          all_goals
            have hb7 := HI.out.1.trans (H7.out.2.mono (by omega))
            have hbw7 := HI.out.2.2.trans (H7.out.2.mono HI.out.2.2.size)
            obtain ⟨c0, c1, c2⟩ := obj3 H7.out.1
            have y1 := obj_below HI.out.2.1 H7.out.2 z1
            obtain ⟨d0', d1'⟩ := obj2s y1
            have e1 := (hbw7.cell (p := ⟨g, _, none⟩) hg).trans HE1.out
            have HB7 := Lib.hid (And.intro hb7 hbw7)
            clear hb7 hbw7 y1
            try clear b0 b1 d1 e0
            by_cases hts : ts = true ∧ 1 < m
            · obtain ⟨rfl, h1m⟩ := hts
              have h1i : (1 : Int) < (m : Int) := by omega
              have HR := Lib.hid (show R = 19 by
                rw [HR4.out, HHit.out (by rw [HTi.out, HMl.out]; simpa using h1m)]; rfl)
              clear h1m
              go_wp2
              go_ret
              exact scI_mk (by rw [HR.out]; rfl) HB7.out.2
            · have HN := Lib.hid (HNx.out (by
                rw [HTi.out, HMl.out]
                cases ts
                · rfl
                · simp at hts ⊢; omega))
              have hw : ts = false ∨ (ts = true ∧ ¬ (1 : Int) < (m : Int)) := by
                cases ts
                · exact .inl rfl
                · exact .inr ⟨rfl, by simp at hts; omega⟩
              clear hts
              rcases hw with rfl | ⟨rfl, h1i⟩
              all_goals
                go_wp2
                exact ⟨⟨k + 1, by omega, by go_num, HB7.out.1, HN.out⟩, by simp [intOf]; omega⟩
        · obtain rfl : k = i := by omega
          have HR := Lib.hid (show R = 0 by
            rw [HR4.out, HTn.out (fun j h1 h2 => htm j h1 h2 (by rw [← HL.out]; exact h2))]; rfl)
          have HBw := Lib.hid hbw
          clear hb x0 x1 hbw htm
          go_wp2
          go_ret
          exact scI_mk (by rw [HR.out]; rfl) HBw.out
end Go.Proofs.YtcfckgpjdaadeaaGreatDoor
