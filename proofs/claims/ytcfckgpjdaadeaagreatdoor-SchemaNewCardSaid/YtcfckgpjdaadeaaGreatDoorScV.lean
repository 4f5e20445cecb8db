/- Values of an entry, as the document checks them. -/
import Derived.Test.YtcfckgpjdaadeaaGreatDoorScO
namespace Go.Proofs.YtcfckgpjdaadeaaGreatDoor
set_option linter.unusedSimpArgs false
set_option linter.unusedVariables false
open Go Go.RowKit Go.Proofs.BerK Go.Proofs.MemK Go.Proofs.UtfK

def valO (T : List Ty) (A : List Atr) : Nat := if valS T A ≠ 0 then valS T A else onS (A.map (tyG T)) A
theorem tyAll_bad {T : List Ty} {A : List Atr} (k : Nat) (hk : k < A.length) (h : scT T A[k].1 = none) : tyAll T A = false := by
  unfold tyAll
  rw [List.all_eq_false]
  exact ⟨A[k], List.getElem_mem hk, by rw [h]; simp⟩
theorem tyAll_good {T : List Ty} {A : List Atr} (h : ∀ k (hk : k < A.length), (scT T A[k].1).isSome = true) : tyAll T A = true := by
  unfold tyAll
  rw [List.all_eq_true]
  intro x hx
  obtain ⟨j, hj, rfl⟩ := List.getElem_of_mem hx
  exact h j hj
theorem empA_yes {A : List Atr} (k : Nat) (hk : k < A.length) (h : A[k].2.length = 0) : (A.any fun a => a.2.length == 0) = true := by
  rw [List.any_eq_true]
  exact ⟨A[k], List.getElem_mem hk, by simp [h]⟩
theorem empA_no {A : List Atr} (h : ∀ k (hk : k < A.length), A[k].2.length ≠ 0) : (A.any fun a => a.2.length == 0) = false := by
  rw [List.any_eq_false]
  intro x hx
  obtain ⟨j, hj, rfl⟩ := List.getElem_of_mem hx
  simp [h j hj]
theorem val_17 {T : List Ty} {A : List Atr} (h : tyAll T A = false) : valO T A = 17 := by unfold valO valS; rw [if_pos h]; rfl
theorem val_19 {T : List Ty} {A : List Atr} (h : tyAll T A = true) (h2 : (A.any fun a => a.2.length == 0) = true) : valO T A = 19 := by
  have hv : valS T A = 19 := by unfold valS; rw [if_neg (by rw [h]; simp), if_pos h2]
  unfold valO; rw [hv, if_pos (by decide)]
theorem val_21 {T : List Ty} {A : List Atr} (h : tyAll T A = true) (h2 : (A.any fun a => a.2.length == 0) = false) (h3 : nmOk (A.map (tyG T)) A = false) : valO T A = 21 := by
  have hv : valS T A = 21 := by unfold valS; rw [if_neg (by rw [h]; simp), if_neg (by rw [h2]; simp), if_pos h3]
  unfold valO; rw [hv, if_pos (by decide)]
theorem val_on {T : List Ty} {A : List Atr} (h : tyAll T A = true) (h2 : (A.any fun a => a.2.length == 0) = false) (h3 : nmOk (A.map (tyG T)) A = true) : valO T A = onS (A.map (tyG T)) A := by
  have hv : valS T A = 0 := by unfold valS; rw [if_neg (by rw [h]; simp), if_neg (by rw [h2]; simp), if_neg (by rw [h3]; simp)]
  unfold valO; rw [hv, if_neg (by simp)]
set_option maxHeartbeats 12800000 in
set_option maxRecDepth 100000 in
theorem rvalues9_any (T : List Ty) (A : List Atr) (tv cv av : Value) (dn : ByteArray) (w : World) (h : TyAt w tv T) (hA : AtAt w av A) (hlT : T.length ≤ 1000000) (hbT : ∀ t ∈ T, t.1.length ≤ 140737488355328) (hl : A.length ≤ 1000000)
    (hv : ∀ a ∈ A, a.1.length ≤ 140737488355328 ∧ a.2.length ≤ 1000000) :
    Calls Tryz.prog 51 #[.agg #[tv, cv], .agg #[.string dn, av]] w (ScI (valO T A : Nat) w) := by
  have HTy := Lib.hid (fun w' (hb : Below w.heap.size w w') s (hs : s.length ≤ 140737488355328) => rtype9_any T tv cv s w' (tyAt_below h hb) hlT hbT hs)
  have HOn := Lib.hid (fun w' (hb : Below w.heap.size w w') h1 h2 => ronce9_any T A tv cv av dn w' (tyAt_below h hb) (atAt_below hA hb) hlT hbT hl hv h1 h2)
  have HS17 := Lib.hid (val_17 (T := T) (A := A))
  have HS19 := Lib.hid (val_19 (T := T) (A := A))
  have HS21 := Lib.hid (val_21 (T := T) (A := A))
  have HSon := Lib.hid (val_on (T := T) (A := A))
  obtain ⟨a, c, rfl, hcells⟩ := hA
  have HM := Lib.hid hcells
  have HV := Lib.hid hv
  obtain ⟨R, hR⟩ : ∃ R, valO T A = R := ⟨_, rfl⟩
  rw [hR] at HS17 HS19 HS21 HSon ⊢
  obtain ⟨n, hn⟩ : ∃ n, A.length = n := ⟨_, rfl⟩
  have HL := Lib.hid hn
  rw [hn] at hl HOn ⊢
  obtain ⟨W1, hW1⟩ : ∃ W1, (w.alloc (.cells #[tv, cv] 32)).alloc (.cells #[.string dn, .slice a n c] 24) = W1 := ⟨_, rfl⟩
  have HX := Lib.hid (boxes9 hW1)
  have HW1 := Lib.hid hW1
  clear hcells hv hR hn hW1 h hbT
  go_enter Tryz.func51, Tryz.ntmps51
  go_wp2
  rw [HW1.out]
  go_loopw [5] (fun v wr => ∃ i : Nat, i ≤ n ∧ v = .int .i64 (i : Nat) ∧ Below (w.heap.size + 2) W1 wr ∧ ∀ j (h1 : j < A.length), j < i → (scT T A[j].1).isSome = true) (fun v _ => n - (intOf v).toNat)
  case atStart => exact ⟨0, by omega, rfl, Below.refl _ _, fun j _ h => by omega⟩
  case round =>
    obtain ⟨i, hi, rfl, hb, hall⟩ := hrel
    have hsr := hb.size
    have hs1 := HX.out.2.2.2
    have x0 := obj_below HX.out.1 hb (by omega)
    have x1 := obj_below HX.out.2.1 hb (by omega)
    have hbw := HX.out.2.2.1.trans (hb.mono (by omega))
    obtain ⟨b0, b1⟩ := obj2s x0
    obtain ⟨d0, d1⟩ := obj2s x1
    have z0 := obj_lt x0
    have z1 := obj_lt x1
    by_cases hlt : i < n
    · have hil : (i : Int) < (n : Int) := by omega
      have him : i < A.length := by rw [HL.out]; exact hlt
      obtain ⟨g, o, vl, rfl, hg, e0w, e1w, hvl⟩ := HM.out i him
      have e0 := (hbw.cell (p := ⟨g, _, none⟩) hg).trans e0w
      have zg := Nat.lt_of_lt_of_le hg hbw.size
      have hbd := HV.out _ (List.getElem_mem him)
      have HBad := Lib.hid (fun h => tyAll_bad (T := T) (A := A) i him h)
      have HNx := Lib.hid (fun (hx : (scT T A[i].1).isSome = true) j (h1 : j < A.length) (h : j < i + 1) => (show (scT T A[j].1).isSome = true by
        by_cases e : j = i
        · subst e; exact hx
        · exact hall j h1 (by omega)))
      obtain ⟨nm, hnm⟩ : ∃ x, A[i].1 = x := ⟨_, rfl⟩
      rw [hnm] at e0 hbd HBad
      have HNm := Lib.hid hnm
      have hT := fun w' (hb' : Below wr.heap.size wr w') => HTy.out w' (hbw.trans (hb'.mono hbw.size)) nm hbd.1
      have HI := Lib.hid (And.intro hb hbw)
      obtain ⟨tt, htt⟩ : ∃ t, scT T nm = t := ⟨_, rfl⟩
      rw [htt] at hT
      clear hb x0 x1 hbw e0w e1w hnm hbd hall hvl
      cases tt with
      | none =>
        have HT := Lib.hid (fun w' (hb' : Below wr.heap.size wr w') => (show Calls Tryz.prog 13 #[.agg #[tv, cv], .string ⟨nm.toArray⟩] w' (fun en w'' => en = .returned (.tuple #[.agg #[.string ⟨#[]⟩, .int .i64 0, .bool false], .bool false]) ∧ Below w'.heap.size w' w'') from hT w' hb'))
        have HR := Lib.hid (show R = 17 from HS17.out (HBad.out htt))
        clear hT htt
        have kb0 : ∀ ob, (wr.drew.alloc ob).cell? ⟨w.heap.size, 0, none⟩ = some (tv) := fun ob => (((Below.refl wr.drew.heap.size wr.drew).alloc (Nat.le_refl _) ob).cell (p := ⟨w.heap.size, _, none⟩) z0).trans b0
        have kb1 : ∀ ob, (wr.drew.alloc ob).cell? ⟨w.heap.size, 1, none⟩ = some (cv) := fun ob => (((Below.refl wr.drew.heap.size wr.drew).alloc (Nat.le_refl _) ob).cell (p := ⟨w.heap.size, _, none⟩) z0).trans b1
        have kd1 : ∀ ob, (wr.drew.alloc ob).cell? ⟨w.heap.size + 1, 1, none⟩ = some (.slice (some ⟨g, o, none⟩) n c) := fun ob => (((Below.refl wr.drew.heap.size wr.drew).alloc (Nat.le_refl _) ob).cell (p := ⟨w.heap.size + 1, _, none⟩) z1).trans d1
        have ke0 : ∀ ob, (wr.drew.alloc ob).cell? ⟨g, o + i * 2, none⟩ = some (.string ⟨nm.toArray⟩) := fun ob => (((Below.refl wr.drew.heap.size wr.drew).alloc (Nat.le_refl _) ob).cell (p := ⟨g, _, none⟩) zg).trans e0
        have ng : g ≠ wr.heap.size := Nat.ne_of_lt zg
        have nwheapsize : w.heap.size ≠ wr.heap.size := Nat.ne_of_lt z0
        have nwheapsize1 : w.heap.size + 1 ≠ wr.heap.size := Nat.ne_of_lt z1
        go_wp2_with fail
        go_region_held3 (fun w' => w'.cell? ⟨w.heap.size, 0, none⟩ = some (tv) ∧ w'.cell? ⟨w.heap.size, 1, none⟩ = some (cv) ∧ w'.cell? ⟨w.heap.size + 1, 1, none⟩ = some (.slice (some ⟨g, o, none⟩) n c) ∧ w'.cell? ⟨g, o + i * 2, none⟩ = some (.string ⟨nm.toArray⟩)) (first | exact ⟨hb0, hb1, hd1, he0⟩ | exact ⟨b0, b1, d1, e0⟩ | exact ⟨(ib0 _), (ib1 _), (id1 _), (ie0 _)⟩ | exact ⟨(kb0 _), (kb1 _), (kd1 _), (ke0 _)⟩ | exact ⟨((cell_other3 nwheapsize _ _ _ _ _ _ _).trans hb0), ((cell_other3 nwheapsize _ _ _ _ _ _ _).trans hb1), ((cell_other3 nwheapsize1 _ _ _ _ _ _ _).trans hd1), ((cell_other3 ng _ _ _ _ _ _ _).trans he0)⟩ | go_keep)
          (first | (go_at_call 13; (with_reducible refine (HT.out _ (by first | exact (Below.refl _ wr).drew | exact ((Below.refl _ wr).drew.alloc (Nat.le_refl _) _) | exact ((Below.refl _ wr).alloc (Nat.le_refl _) _).drew)).mono ?_); rintro en w5 ⟨rfl, hb5⟩; have hbV : Below wr.heap.size wr w5 := (by first | exact (Below.refl _ wr).drew.trans hb5 | exact ((Below.refl _ wr).drew.alloc (Nat.le_refl _) _).trans (hb5.mono (by simp)) | exact (((Below.refl _ wr).alloc (Nat.le_refl _) _).drew).trans (hb5.mono (by show _ ≤ (wr.alloc _).heap.size; simp))); have hb0 := (hbV.cell (p := ⟨w.heap.size, _, none⟩) z0).trans b0; have ib0 : ∀ ob, (w5.alloc ob).cell? ⟨w.heap.size, 0, none⟩ = some (tv) := (fun ob => (((Below.refl w5.heap.size w5).alloc (Nat.le_refl _) ob).cell (p := ⟨w.heap.size, _, none⟩) (Nat.lt_of_lt_of_le z0 hbV.size)).trans hb0); have hb1 := (hbV.cell (p := ⟨w.heap.size, _, none⟩) z0).trans b1; have ib1 : ∀ ob, (w5.alloc ob).cell? ⟨w.heap.size, 1, none⟩ = some (cv) := (fun ob => (((Below.refl w5.heap.size w5).alloc (Nat.le_refl _) ob).cell (p := ⟨w.heap.size, _, none⟩) (Nat.lt_of_lt_of_le z0 hbV.size)).trans hb1); have hd1 := (hbV.cell (p := ⟨w.heap.size + 1, _, none⟩) z1).trans d1; have id1 : ∀ ob, (w5.alloc ob).cell? ⟨w.heap.size + 1, 1, none⟩ = some (.slice (some ⟨g, o, none⟩) n c) := (fun ob => (((Below.refl w5.heap.size w5).alloc (Nat.le_refl _) ob).cell (p := ⟨w.heap.size + 1, _, none⟩) (Nat.lt_of_lt_of_le z1 hbV.size)).trans hd1); have he0 := (hbV.cell (p := ⟨g, _, none⟩) zg).trans e0; have ie0 : ∀ ob, (w5.alloc ob).cell? ⟨g, o + i * 2, none⟩ = some (.string ⟨nm.toArray⟩) := (fun ob => (((Below.refl w5.heap.size w5).alloc (Nat.le_refl _) ob).cell (p := ⟨g, _, none⟩) (Nat.lt_of_lt_of_le zg hbV.size)).trans he0); have HV5 := Lib.hid hbV; try (have hbox : w5.heap[wr.heap.size]? = some (.cells #[.string ⟨#[]⟩, .int .i64 0, .bool false] 35 (0, 0)) := (by first | exact obj_below (heap_alloc_new wr.drew _) hb5 (by simp) | exact obj_below (w := (wr.alloc _).drew) (heap_alloc_new wr _) hb5 (by show _ < (wr.alloc _).heap.size; simp)); have b0_ := obj_cell hbox 0 _ rfl; have f0_ := obj_free hbox 0; have b1_ := obj_cell hbox 1 _ rfl; have f1_ := obj_free hbox 1; have b2_ := obj_cell hbox 2 _ rfl; have f2_ := obj_free hbox 2; have HB5 := Lib.hid hbox; clear hbox); clear hb5 hbV))
        all_goals
          first
            | (obtain ⟨W7, hW7⟩ : ∃ W7, (((w5.setCell ⟨wr.heap.size, 0, none⟩ (.string ⟨#[]⟩)).setCell ⟨wr.heap.size, 1, none⟩ (.int .i64 0)).setCell ⟨wr.heap.size, 2, none⟩ (.bool false)) = W7 := ⟨_, rfl⟩; have hbx : W7.heap[wr.heap.size]? = some (.cells #[.string ⟨#[]⟩, .int .i64 0, .bool false] 35 (0, 0)) := (by rw [← hW7]; exact obj_set3 HB5.out _ _ _); have hb7 : Below wr.heap.size wr W7 := (by rw [← hW7]; exact below_set3 HV5.out (Nat.le_refl _) _ _ _); rw [hW7]; obtain ⟨bx, hbe⟩ : ∃ bx, wr.heap.size = bx := ⟨_, rfl⟩; have HBX := Lib.hid (show wr.heap.size ≤ bx by have := HV5.out.size; omega); rw [hbe] at hbx ⊢; have H7 := Lib.hid (And.intro hbx hb7); clear hbx hb7 hW7 hbe)
            | (obtain ⟨W7, hW7⟩ : ∃ W7, w5.alloc (.cells #[.string ⟨#[]⟩, .int .i64 0, .bool false] 35) = W7 := ⟨_, rfl⟩; have hbx : W7.heap[w5.heap.size]? = some (.cells #[.string ⟨#[]⟩, .int .i64 0, .bool false] 35 (0, 0)) := (by rw [← hW7]; exact heap_alloc_new w5 _); have hb7 : Below wr.heap.size wr W7 := (by rw [← hW7]; exact HV5.out.alloc HV5.out.size _); rw [hW7]; obtain ⟨bx, hbe⟩ : ∃ bx, w5.heap.size = bx := ⟨_, rfl⟩; have HBX := Lib.hid (show wr.heap.size ≤ bx by have := HV5.out.size; omega); rw [hbe] at hbx ⊢; have H7 := Lib.hid (And.intro hbx hb7); clear hbx hb7 hW7 hbe)
        all_goals
          try clear hb0 hb1 hd1 he0
          try clear ib0 ib1 id1 ie0
          try clear kb0 kb1 kd1 ke0
          try clear b0_ f0_
          try clear b1_ f1_
          try clear b2_ f2_
          try clear HB5
          try clear HV5
        all_goals
          have HB := Lib.hid (HI.out.2.trans (H7.out.2.mono HI.out.2.size))
          try clear b0 b1 d1 e0
          go_wp2
          go_ret
          exact scI_mk (by rw [HR.out]; rfl) HB.out
      | some tt =>
        obtain ⟨tn, tr, ts⟩ := tt
        have HT := Lib.hid (fun w' (hb' : Below wr.heap.size wr w') => (show Calls Tryz.prog 13 #[.agg #[tv, cv], .string ⟨nm.toArray⟩] w' (fun en w'' => en = .returned (.tuple #[.agg #[.string ⟨tn.toArray⟩, .int .i64 tr, .bool ts], .bool true]) ∧ Below w'.heap.size w' w'') from hT w' hb'))
        have HN := Lib.hid (HNx.out (by rw [HNm.out, htt]; rfl))
        clear hT htt
        have kb0 : ∀ ob, (wr.drew.alloc ob).cell? ⟨w.heap.size, 0, none⟩ = some (tv) := fun ob => (((Below.refl wr.drew.heap.size wr.drew).alloc (Nat.le_refl _) ob).cell (p := ⟨w.heap.size, _, none⟩) z0).trans b0
        have kb1 : ∀ ob, (wr.drew.alloc ob).cell? ⟨w.heap.size, 1, none⟩ = some (cv) := fun ob => (((Below.refl wr.drew.heap.size wr.drew).alloc (Nat.le_refl _) ob).cell (p := ⟨w.heap.size, _, none⟩) z0).trans b1
        have kd1 : ∀ ob, (wr.drew.alloc ob).cell? ⟨w.heap.size + 1, 1, none⟩ = some (.slice (some ⟨g, o, none⟩) n c) := fun ob => (((Below.refl wr.drew.heap.size wr.drew).alloc (Nat.le_refl _) ob).cell (p := ⟨w.heap.size + 1, _, none⟩) z1).trans d1
        have ke0 : ∀ ob, (wr.drew.alloc ob).cell? ⟨g, o + i * 2, none⟩ = some (.string ⟨nm.toArray⟩) := fun ob => (((Below.refl wr.drew.heap.size wr.drew).alloc (Nat.le_refl _) ob).cell (p := ⟨g, _, none⟩) zg).trans e0
        have ng : g ≠ wr.heap.size := Nat.ne_of_lt zg
        have nwheapsize : w.heap.size ≠ wr.heap.size := Nat.ne_of_lt z0
        have nwheapsize1 : w.heap.size + 1 ≠ wr.heap.size := Nat.ne_of_lt z1
        go_wp2_with fail
        go_region_held3 (fun w' => w'.cell? ⟨w.heap.size, 0, none⟩ = some (tv) ∧ w'.cell? ⟨w.heap.size, 1, none⟩ = some (cv) ∧ w'.cell? ⟨w.heap.size + 1, 1, none⟩ = some (.slice (some ⟨g, o, none⟩) n c) ∧ w'.cell? ⟨g, o + i * 2, none⟩ = some (.string ⟨nm.toArray⟩)) (first | exact ⟨hb0, hb1, hd1, he0⟩ | exact ⟨b0, b1, d1, e0⟩ | exact ⟨(ib0 _), (ib1 _), (id1 _), (ie0 _)⟩ | exact ⟨(kb0 _), (kb1 _), (kd1 _), (ke0 _)⟩ | exact ⟨((cell_other3 nwheapsize _ _ _ _ _ _ _).trans hb0), ((cell_other3 nwheapsize _ _ _ _ _ _ _).trans hb1), ((cell_other3 nwheapsize1 _ _ _ _ _ _ _).trans hd1), ((cell_other3 ng _ _ _ _ _ _ _).trans he0)⟩ | go_keep)
          (first | (go_at_call 13; (with_reducible refine (HT.out _ (by first | exact (Below.refl _ wr).drew | exact ((Below.refl _ wr).drew.alloc (Nat.le_refl _) _) | exact ((Below.refl _ wr).alloc (Nat.le_refl _) _).drew)).mono ?_); rintro en w5 ⟨rfl, hb5⟩; have hbV : Below wr.heap.size wr w5 := (by first | exact (Below.refl _ wr).drew.trans hb5 | exact ((Below.refl _ wr).drew.alloc (Nat.le_refl _) _).trans (hb5.mono (by simp)) | exact (((Below.refl _ wr).alloc (Nat.le_refl _) _).drew).trans (hb5.mono (by show _ ≤ (wr.alloc _).heap.size; simp))); have hb0 := (hbV.cell (p := ⟨w.heap.size, _, none⟩) z0).trans b0; have ib0 : ∀ ob, (w5.alloc ob).cell? ⟨w.heap.size, 0, none⟩ = some (tv) := (fun ob => (((Below.refl w5.heap.size w5).alloc (Nat.le_refl _) ob).cell (p := ⟨w.heap.size, _, none⟩) (Nat.lt_of_lt_of_le z0 hbV.size)).trans hb0); have hb1 := (hbV.cell (p := ⟨w.heap.size, _, none⟩) z0).trans b1; have ib1 : ∀ ob, (w5.alloc ob).cell? ⟨w.heap.size, 1, none⟩ = some (cv) := (fun ob => (((Below.refl w5.heap.size w5).alloc (Nat.le_refl _) ob).cell (p := ⟨w.heap.size, _, none⟩) (Nat.lt_of_lt_of_le z0 hbV.size)).trans hb1); have hd1 := (hbV.cell (p := ⟨w.heap.size + 1, _, none⟩) z1).trans d1; have id1 : ∀ ob, (w5.alloc ob).cell? ⟨w.heap.size + 1, 1, none⟩ = some (.slice (some ⟨g, o, none⟩) n c) := (fun ob => (((Below.refl w5.heap.size w5).alloc (Nat.le_refl _) ob).cell (p := ⟨w.heap.size + 1, _, none⟩) (Nat.lt_of_lt_of_le z1 hbV.size)).trans hd1); have he0 := (hbV.cell (p := ⟨g, _, none⟩) zg).trans e0; have ie0 : ∀ ob, (w5.alloc ob).cell? ⟨g, o + i * 2, none⟩ = some (.string ⟨nm.toArray⟩) := (fun ob => (((Below.refl w5.heap.size w5).alloc (Nat.le_refl _) ob).cell (p := ⟨g, _, none⟩) (Nat.lt_of_lt_of_le zg hbV.size)).trans he0); have HV5 := Lib.hid hbV; try (have hbox : w5.heap[wr.heap.size]? = some (.cells #[.string ⟨#[]⟩, .int .i64 0, .bool false] 35 (0, 0)) := (by first | exact obj_below (heap_alloc_new wr.drew _) hb5 (by simp) | exact obj_below (w := (wr.alloc _).drew) (heap_alloc_new wr _) hb5 (by show _ < (wr.alloc _).heap.size; simp)); have b0_ := obj_cell hbox 0 _ rfl; have f0_ := obj_free hbox 0; have b1_ := obj_cell hbox 1 _ rfl; have f1_ := obj_free hbox 1; have b2_ := obj_cell hbox 2 _ rfl; have f2_ := obj_free hbox 2; have HB5 := Lib.hid hbox; clear hbox); clear hb5 hbV))
        all_goals
          first
            | (obtain ⟨W7, hW7⟩ : ∃ W7, (((w5.setCell ⟨wr.heap.size, 0, none⟩ (.string ⟨tn.toArray⟩)).setCell ⟨wr.heap.size, 1, none⟩ (.int .i64 tr)).setCell ⟨wr.heap.size, 2, none⟩ (.bool ts)) = W7 := ⟨_, rfl⟩; have hbx : W7.heap[wr.heap.size]? = some (.cells #[.string ⟨tn.toArray⟩, .int .i64 tr, .bool ts] 35 (0, 0)) := (by rw [← hW7]; exact obj_set3 HB5.out _ _ _); have hb7 : Below wr.heap.size wr W7 := (by rw [← hW7]; exact below_set3 HV5.out (Nat.le_refl _) _ _ _); rw [hW7]; obtain ⟨bx, hbe⟩ : ∃ bx, wr.heap.size = bx := ⟨_, rfl⟩; have HBX := Lib.hid (show wr.heap.size ≤ bx by have := HV5.out.size; omega); rw [hbe] at hbx ⊢; have H7 := Lib.hid (And.intro hbx hb7); clear hbx hb7 hW7 hbe)
            | (obtain ⟨W7, hW7⟩ : ∃ W7, w5.alloc (.cells #[.string ⟨tn.toArray⟩, .int .i64 tr, .bool ts] 35) = W7 := ⟨_, rfl⟩; have hbx : W7.heap[w5.heap.size]? = some (.cells #[.string ⟨tn.toArray⟩, .int .i64 tr, .bool ts] 35 (0, 0)) := (by rw [← hW7]; exact heap_alloc_new w5 _); have hb7 : Below wr.heap.size wr W7 := (by rw [← hW7]; exact HV5.out.alloc HV5.out.size _); rw [hW7]; obtain ⟨bx, hbe⟩ : ∃ bx, w5.heap.size = bx := ⟨_, rfl⟩; have HBX := Lib.hid (show wr.heap.size ≤ bx by have := HV5.out.size; omega); rw [hbe] at hbx ⊢; have H7 := Lib.hid (And.intro hbx hb7); clear hbx hb7 hW7 hbe)
        all_goals
          try clear hb0 hb1 hd1 he0
          try clear ib0 ib1 id1 ie0
          try clear kb0 kb1 kd1 ke0
          try clear b0_ f0_
          try clear b1_ f1_
          try clear b2_ f2_
          try clear HB5
          try clear HV5
        all_goals
          have HB := Lib.hid (HI.out.1.trans (H7.out.2.mono (by omega)))
          try clear b0 b1 d1 e0
          go_wp2
          exact ⟨⟨i + 1, by omega, by go_num, HB.out, HN.out⟩, by simp [intOf]; omega⟩
    · obtain rfl : i = n := by omega
      have HAll := Lib.hid (tyAll_good (T := T) (A := A) (fun j hj => hall j hj (by rw [← HL.out]; exact hj)))
      have HB2 := Lib.hid hb
      clear hb x0 x1 hbw hall
      go_wp2
      clear b0 b1 d0 d1
      go_loopw [8] (fun v wz => ∃ k : Nat, k ≤ i ∧ v = .int .i64 (k : Nat) ∧ Below (w.heap.size + 2) W1 wz ∧ ∀ j (h1 : j < A.length), j < k → A[j].2.length ≠ 0) (fun v _ => i - (intOf v).toNat)
      case atStart => exact ⟨0, by omega, rfl, HB2.out, fun j _ h => by omega⟩
      case round =>
        obtain ⟨k, hk, rfl, hb, hne⟩ := hrel
        have hsr := hb.size
        have x1 := obj_below HX.out.2.1 hb (by omega)
        have hbw := HX.out.2.2.1.trans (hb.mono (by omega))
        obtain ⟨d0, d1⟩ := obj2s x1
        by_cases hlk : k < i
        · have hkl : (k : Int) < (i : Int) := by omega
          have hkm : k < A.length := by rw [HL.out]; exact hlk
          obtain ⟨g, o, vl, rfl, hg, e0w, e1w, hvl⟩ := HM.out k hkm
          obtain ⟨va, vc, rfl, hvx⟩ := hvl
          have e1 := (hbw.cell (p := ⟨g, _, none⟩) hg).trans e1w
          have HNx := Lib.hid (fun (hx : A[k].2.length ≠ 0) j (h1 : j < A.length) (h : j < k + 1) => (show A[j].2.length ≠ 0 by
            by_cases e : j = k
            · subst e; exact hx
            · exact hne j h1 (by omega)))
          have HYes := Lib.hid (fun h => empA_yes (A := A) k hkm h)
          obtain ⟨m, hm⟩ : ∃ x, A[k].2.length = x := ⟨_, rfl⟩
          have HMl := Lib.hid hm
          rw [hm] at e1 HYes
          have HI := Lib.hid (And.intro hb hbw)
          clear hb x1 hbw hvx e0w e1w hm hne
          by_cases hm0 : m = 0
          · subst hm0
            have HR := Lib.hid (show R = 19 from HS19.out HAll.out (HYes.out rfl))
            go_wp2
            go_ret
            exact scI_mk (by rw [HR.out]; rfl) HI.out.2
          · have hmi : ((m : Int) == 0) = false := by rw [beq_eq_false_iff_ne]; omega
            have HN := Lib.hid (HNx.out (by rw [HMl.out]; exact hm0))
            clear hm0
            go_wp2
            exact ⟨⟨k + 1, by omega, by go_num, HI.out.1, HN.out⟩, by simp [intOf]; omega⟩
        · obtain rfl : k = i := by omega
          have HEmp := Lib.hid (empA_no (A := A) (fun j hj => hne j hj (by rw [← HL.out]; exact hj)))
          have HB3 := Lib.hid hb
          clear hb x1 hbw hne
          go_wp2
          clear d0 d1
          go_loopw [9] (fun v wz => ∃ i : Nat, i ≤ k ∧ v = .int .i64 (i : Nat) ∧ Below (w.heap.size + 2) W1 wz ∧ ∀ p (h1 : p < A.length) q (hq : q < A[p].2.length), p < i → (ruN (tyG T A[p]).2.1 A[p].2[q]).2 = true) (fun v _ => k - (intOf v).toNat)
          case atStart => exact ⟨0, by omega, rfl, HB3.out, fun p _ _ _ h => by omega⟩
          case round =>
            obtain ⟨i, hi, rfl, hb, hgd⟩ := hrel
            have hsr := hb.size
            have x0 := obj_below HX.out.1 hb (by omega)
            have x1 := obj_below HX.out.2.1 hb (by omega)
            have hbw := HX.out.2.2.1.trans (hb.mono (by omega))
            obtain ⟨b0, b1⟩ := obj2s x0
            obtain ⟨d0, d1⟩ := obj2s x1
            have z0 := obj_lt x0
            have z1 := obj_lt x1
            by_cases hlt : i < k
            · have hil : (i : Int) < (k : Int) := by omega
              have him : i < A.length := by rw [HL.out]; exact hlt
              obtain ⟨g, o, vl, rfl, hg, e0w, e1w, hvl⟩ := HM.out i him
              obtain ⟨va, vc, rfl, hvx⟩ := hvl
              have HVX := Lib.hid hvx
              have e0 := (hbw.cell (p := ⟨g, _, none⟩) hg).trans e0w
              have zg := Nat.lt_of_lt_of_le hg hbw.size
              have hbd := HV.out _ (List.getElem_mem him)
              have HSi := Lib.hid (show scT T A[i].1 = some (tyG T A[i]) by
                have := List.all_eq_true.1 HAll.out _ (List.getElem_mem him)
                obtain ⟨t, ht⟩ := Option.isSome_iff_exists.1 this
                simp [tyG, ht])
              have HBad := Lib.hid (fun q (hq : q < A[i].2.length) (h : (ruN (tyG T A[i]).2.1 A[i].2[q]).2 = false) => (show R = 21 from HS21.out HAll.out HEmp.out (nmOk_bad (TL := A.map (tyG T)) (A := A) i (by simpa using him) him q hq (by simpa using h))))
              have HNx := Lib.hid (fun (hx : ∀ q (hq : q < A[i].2.length), (ruN (tyG T A[i]).2.1 A[i].2[q]).2 = true) p (h1 : p < A.length) q (hq : q < A[p].2.length) (h : p < i + 1) => (show (ruN (tyG T A[p]).2.1 A[p].2[q]).2 = true by
                by_cases e : p = i
                · subst e; exact hx q hq
                · exact hgd p h1 q hq (by omega)))
              obtain ⟨m, hm⟩ : ∃ x, A[i].2.length = x := ⟨_, rfl⟩
              have HMl := Lib.hid hm
              rw [hm] at e1w hbd
              obtain ⟨nm, hnm⟩ : ∃ x, A[i].1 = x := ⟨_, rfl⟩
              rw [hnm] at e0 hbd HSi
              obtain ⟨⟨tn, tr, ts⟩, htt⟩ : ∃ t, tyG T A[i] = t := ⟨_, rfl⟩
              rw [htt] at HSi HBad HNx
              have hT := fun w' (hb' : Below wr.heap.size wr w') => HTy.out w' (hbw.trans (hb'.mono hbw.size)) nm hbd.1
              rw [HSi.out] at hT
              have HT := Lib.hid (fun w' (hb' : Below wr.heap.size wr w') => (show Calls Tryz.prog 13 #[.agg #[tv, cv], .string ⟨nm.toArray⟩] w' (fun en w'' => en = .returned (.tuple #[.agg #[.string ⟨tn.toArray⟩, .int .i64 tr, .bool ts], .bool true]) ∧ Below w'.heap.size w' w'') from hT w' hb'))
              have hbm := hbd.2
              have HE1 := Lib.hid e1w
              have HI := Lib.hid (And.intro hb (And.intro hbw x1))
              clear hb x0 x1 hbw hvx e0w e1w hm hnm htt hT hbd hgd
              have kb0 : ∀ ob, (wr.drew.alloc ob).cell? ⟨w.heap.size, 0, none⟩ = some (tv) := fun ob => (((Below.refl wr.drew.heap.size wr.drew).alloc (Nat.le_refl _) ob).cell (p := ⟨w.heap.size, _, none⟩) z0).trans b0
              have kb1 : ∀ ob, (wr.drew.alloc ob).cell? ⟨w.heap.size, 1, none⟩ = some (cv) := fun ob => (((Below.refl wr.drew.heap.size wr.drew).alloc (Nat.le_refl _) ob).cell (p := ⟨w.heap.size, _, none⟩) z0).trans b1
              have kd1 : ∀ ob, (wr.drew.alloc ob).cell? ⟨w.heap.size + 1, 1, none⟩ = some (.slice (some ⟨g, o, none⟩) k c) := fun ob => (((Below.refl wr.drew.heap.size wr.drew).alloc (Nat.le_refl _) ob).cell (p := ⟨w.heap.size + 1, _, none⟩) z1).trans d1
              have ke0 : ∀ ob, (wr.drew.alloc ob).cell? ⟨g, o + i * 2, none⟩ = some (.string ⟨nm.toArray⟩) := fun ob => (((Below.refl wr.drew.heap.size wr.drew).alloc (Nat.le_refl _) ob).cell (p := ⟨g, _, none⟩) zg).trans e0
              have ng : g ≠ wr.heap.size := Nat.ne_of_lt zg
              have nwheapsize : w.heap.size ≠ wr.heap.size := Nat.ne_of_lt z0
              have nwheapsize1 : w.heap.size + 1 ≠ wr.heap.size := Nat.ne_of_lt z1
              go_wp2_with fail
              go_region_held3 (fun w' => w'.cell? ⟨w.heap.size, 0, none⟩ = some (tv) ∧ w'.cell? ⟨w.heap.size, 1, none⟩ = some (cv) ∧ w'.cell? ⟨w.heap.size + 1, 1, none⟩ = some (.slice (some ⟨g, o, none⟩) k c) ∧ w'.cell? ⟨g, o + i * 2, none⟩ = some (.string ⟨nm.toArray⟩)) (first | exact ⟨hb0, hb1, hd1, he0⟩ | exact ⟨b0, b1, d1, e0⟩ | exact ⟨(ib0 _), (ib1 _), (id1 _), (ie0 _)⟩ | exact ⟨(kb0 _), (kb1 _), (kd1 _), (ke0 _)⟩ | exact ⟨((cell_other3 nwheapsize _ _ _ _ _ _ _).trans hb0), ((cell_other3 nwheapsize _ _ _ _ _ _ _).trans hb1), ((cell_other3 nwheapsize1 _ _ _ _ _ _ _).trans hd1), ((cell_other3 ng _ _ _ _ _ _ _).trans he0)⟩ | go_keep)
                (first | (go_at_call 13; (with_reducible refine (HT.out _ (by first | exact (Below.refl _ wr).drew | exact ((Below.refl _ wr).drew.alloc (Nat.le_refl _) _) | exact ((Below.refl _ wr).alloc (Nat.le_refl _) _).drew)).mono ?_); rintro en w5 ⟨rfl, hb5⟩; have hbV : Below wr.heap.size wr w5 := (by first | exact (Below.refl _ wr).drew.trans hb5 | exact ((Below.refl _ wr).drew.alloc (Nat.le_refl _) _).trans (hb5.mono (by simp)) | exact (((Below.refl _ wr).alloc (Nat.le_refl _) _).drew).trans (hb5.mono (by show _ ≤ (wr.alloc _).heap.size; simp))); have hb0 := (hbV.cell (p := ⟨w.heap.size, _, none⟩) z0).trans b0; have ib0 : ∀ ob, (w5.alloc ob).cell? ⟨w.heap.size, 0, none⟩ = some (tv) := (fun ob => (((Below.refl w5.heap.size w5).alloc (Nat.le_refl _) ob).cell (p := ⟨w.heap.size, _, none⟩) (Nat.lt_of_lt_of_le z0 hbV.size)).trans hb0); have hb1 := (hbV.cell (p := ⟨w.heap.size, _, none⟩) z0).trans b1; have ib1 : ∀ ob, (w5.alloc ob).cell? ⟨w.heap.size, 1, none⟩ = some (cv) := (fun ob => (((Below.refl w5.heap.size w5).alloc (Nat.le_refl _) ob).cell (p := ⟨w.heap.size, _, none⟩) (Nat.lt_of_lt_of_le z0 hbV.size)).trans hb1); have hd1 := (hbV.cell (p := ⟨w.heap.size + 1, _, none⟩) z1).trans d1; have id1 : ∀ ob, (w5.alloc ob).cell? ⟨w.heap.size + 1, 1, none⟩ = some (.slice (some ⟨g, o, none⟩) k c) := (fun ob => (((Below.refl w5.heap.size w5).alloc (Nat.le_refl _) ob).cell (p := ⟨w.heap.size + 1, _, none⟩) (Nat.lt_of_lt_of_le z1 hbV.size)).trans hd1); have he0 := (hbV.cell (p := ⟨g, _, none⟩) zg).trans e0; have ie0 : ∀ ob, (w5.alloc ob).cell? ⟨g, o + i * 2, none⟩ = some (.string ⟨nm.toArray⟩) := (fun ob => (((Below.refl w5.heap.size w5).alloc (Nat.le_refl _) ob).cell (p := ⟨g, _, none⟩) (Nat.lt_of_lt_of_le zg hbV.size)).trans he0); have HV5 := Lib.hid hbV; try (have hbox : w5.heap[wr.heap.size]? = some (.cells #[.string ⟨#[]⟩, .int .i64 0, .bool false] 35 (0, 0)) := (by first | exact obj_below (heap_alloc_new wr.drew _) hb5 (by simp) | exact obj_below (w := (wr.alloc _).drew) (heap_alloc_new wr _) hb5 (by show _ < (wr.alloc _).heap.size; simp)); have b0_ := obj_cell hbox 0 _ rfl; have f0_ := obj_free hbox 0; have b1_ := obj_cell hbox 1 _ rfl; have f1_ := obj_free hbox 1; have b2_ := obj_cell hbox 2 _ rfl; have f2_ := obj_free hbox 2; have HB5 := Lib.hid hbox; clear hbox); clear hb5 hbV))
              all_goals
                first
                  | (obtain ⟨W7, hW7⟩ : ∃ W7, (((w5.setCell ⟨wr.heap.size, 0, none⟩ (.string ⟨tn.toArray⟩)).setCell ⟨wr.heap.size, 1, none⟩ (.int .i64 tr)).setCell ⟨wr.heap.size, 2, none⟩ (.bool ts)) = W7 := ⟨_, rfl⟩; have hbx : W7.heap[wr.heap.size]? = some (.cells #[.string ⟨tn.toArray⟩, .int .i64 tr, .bool ts] 35 (0, 0)) := (by rw [← hW7]; exact obj_set3 HB5.out _ _ _); have hb7 : Below wr.heap.size wr W7 := (by rw [← hW7]; exact below_set3 HV5.out (Nat.le_refl _) _ _ _); rw [hW7]; obtain ⟨bx, hbe⟩ : ∃ bx, wr.heap.size = bx := ⟨_, rfl⟩; have HBX := Lib.hid (show wr.heap.size ≤ bx by have := HV5.out.size; omega); rw [hbe] at hbx ⊢; have H7 := Lib.hid (And.intro hbx hb7); clear hbx hb7 hW7 hbe)
                  | (obtain ⟨W7, hW7⟩ : ∃ W7, w5.alloc (.cells #[.string ⟨tn.toArray⟩, .int .i64 tr, .bool ts] 35) = W7 := ⟨_, rfl⟩; have hbx : W7.heap[w5.heap.size]? = some (.cells #[.string ⟨tn.toArray⟩, .int .i64 tr, .bool ts] 35 (0, 0)) := (by rw [← hW7]; exact heap_alloc_new w5 _); have hb7 : Below wr.heap.size wr W7 := (by rw [← hW7]; exact HV5.out.alloc HV5.out.size _); rw [hW7]; obtain ⟨bx, hbe⟩ : ∃ bx, w5.heap.size = bx := ⟨_, rfl⟩; have HBX := Lib.hid (show wr.heap.size ≤ bx by have := HV5.out.size; omega); rw [hbe] at hbx ⊢; have H7 := Lib.hid (And.intro hbx hb7); clear hbx hb7 hW7 hbe)
              all_goals
                try clear hb0 hb1 hd1 he0
                try clear ib0 ib1 id1 ie0
                try clear kb0 kb1 kd1 ke0
                try clear b0_ f0_
                try clear b1_ f1_
                try clear b2_ f2_
                try clear HB5
                try clear HV5
              all_goals
                have hb7 := HI.out.1.trans (H7.out.2.mono (by omega))
                have HB7 := Lib.hid (And.intro hb7 (obj_below HI.out.2.2 H7.out.2 z1))
                have hz7 := hb7.size
                have HZ7 := Lib.hid (obj_lt H7.out.1)
                clear hb7
                try clear b0 b1 d1 e0
                go_wp2
                go_loopw [12] (fun v wz => ∃ j : Nat, j ≤ m ∧ v = .int .i64 (j : Nat) ∧ Below W7.heap.size W7 wz ∧ ∀ q (hq : q < A[i].2.length), q < j → (ruN tr A[i].2[q]).2 = true) (fun v _ => m - (intOf v).toNat)
                case atStart => exact ⟨0, by omega, rfl, Below.refl _ _, fun q _ h => by omega⟩
                case round =>
                  obtain ⟨j, hj, rfl, hby, hgq⟩ := hrel
                  have y1 := obj_below HB7.out.2 hby (obj_lt HB7.out.2)
                  obtain ⟨d0', d1'⟩ := obj2s y1
                  have hbY : Below w.heap.size w wr := (HX.out.2.2.1.trans (HB7.out.1.mono (by omega))).trans (hby.mono (by omega))
                  have e1 := (hbY.cell (p := ⟨g, _, none⟩) hg).trans HE1.out
                  have HBy := Lib.hid (And.intro hby hbY)
                  by_cases hjm : j < m
                  · have hjl : (j : Int) < (m : Int) := by omega
                    have hjA : j < A[i].2.length := by rw [HMl.out]; exact hjm
                    obtain ⟨g3, o3, rfl, hg3, v0w⟩ := HVX.out j hjA
                    have v0 := (hbY.cell (p := ⟨g3, _, none⟩) hg3).trans v0w
                    obtain ⟨c0, c1, c2⟩ := obj3 (obj_below H7.out.1 hby HZ7.out)
                    have HBj := Lib.hid (HBad.out j hjA)
                    have HNj := Lib.hid (fun (hx : (ruN tr A[i].2[j]).2 = true) q (hq : q < A[i].2.length) (h : q < j + 1) => (show (ruN tr A[i].2[q]).2 = true by
                      by_cases e : q = j
                      · subst e; exact hx
                      · exact hgq q hq (by omega)))
                    obtain ⟨x, hx⟩ : ∃ x, A[i].2[j] = x := ⟨_, rfl⟩
                    rw [hx] at v0 HBj
                    have HXx := Lib.hid hx
                    have zg3 := Nat.lt_of_lt_of_le hg3 hbY.size
                    have zgg := Nat.lt_of_lt_of_le hg hbY.size
                    have zE := obj_lt y1
                    have zbx : bx < wr.heap.size := Nat.lt_of_lt_of_le HZ7.out hby.size
                    have hNo := fun w' => rrnorm_any tr x w'
                    obtain ⟨⟨X, ok⟩, hX⟩ : ∃ p, ruN tr x = p := ⟨_, rfl⟩
                    simp only [hX] at hNo
                    have HNo := Lib.hid hNo
                    have HXX := Lib.hid hX
                    clear hby hbY hgq v0w hx hX hNo y1
                    cases ok with
                    | false =>
                      have HR := Lib.hid (HBj.out (by show (ruN tr x).2 = false; rw [HXX.out]))
                      go_wp2_with fail
                      go_region_held3 (fun w' => w'.cell? ⟨bx, 1, none⟩ = some (.int .i64 tr) ∧ w'.cell? ⟨w.heap.size + 1, 1, none⟩ = some (.slice (some ⟨g, o, none⟩) k c) ∧ w'.cell? ⟨g, o + i * 2 + 1, none⟩ = some (.slice (some ⟨g3, o3, none⟩) m vc) ∧ w'.cell? ⟨g3, o3 + j, none⟩ = some (.string ⟨x.toArray⟩)) (first | exact ⟨hc1, hd1', he1, hv0⟩ | exact ⟨c1, d1', e1, v0⟩ | go_keep)
                        (first | (go_at_call 79; (with_reducible refine (HNo.out _).mono ?_); rintro en w9 ⟨rfl, hb9⟩; have hbV : Below wr.heap.size wr w9 := (Below.refl _ wr).drew.trans hb9; have hc1 := (hbV.cell (p := ⟨bx, _, none⟩) zbx).trans c1; have hd1' := (hbV.cell (p := ⟨w.heap.size + 1, _, none⟩) zE).trans d1'; have he1 := (hbV.cell (p := ⟨g, _, none⟩) zgg).trans e1; have hv0 := (hbV.cell (p := ⟨g3, _, none⟩) zg3).trans v0; clear hb9))
                      have HB9 := Lib.hid (HBy.out.2.trans (hbV.mono HBy.out.2.size))
                      clear hbV hc1 hd1' he1 hv0 v0 c0 c1 c2 d0' d1' e1
                      go_wp2
                      go_ret
                      exact scI_mk (by rw [HR.out]; rfl) HB9.out
                    | true =>
                      have HN := Lib.hid (HNj.out (by rw [HXx.out, HXX.out]))
                      go_wp2_with fail
                      go_region_held3 (fun w' => w'.cell? ⟨bx, 1, none⟩ = some (.int .i64 tr) ∧ w'.cell? ⟨w.heap.size + 1, 1, none⟩ = some (.slice (some ⟨g, o, none⟩) k c) ∧ w'.cell? ⟨g, o + i * 2 + 1, none⟩ = some (.slice (some ⟨g3, o3, none⟩) m vc) ∧ w'.cell? ⟨g3, o3 + j, none⟩ = some (.string ⟨x.toArray⟩)) (first | exact ⟨hc1, hd1', he1, hv0⟩ | exact ⟨c1, d1', e1, v0⟩ | go_keep)
                        (first | (go_at_call 79; (with_reducible refine (HNo.out _).mono ?_); rintro en w9 ⟨rfl, hb9⟩; have hbV : Below wr.heap.size wr w9 := (Below.refl _ wr).drew.trans hb9; have hc1 := (hbV.cell (p := ⟨bx, _, none⟩) zbx).trans c1; have hd1' := (hbV.cell (p := ⟨w.heap.size + 1, _, none⟩) zE).trans d1'; have he1 := (hbV.cell (p := ⟨g, _, none⟩) zgg).trans e1; have hv0 := (hbV.cell (p := ⟨g3, _, none⟩) zg3).trans v0; clear hb9))
                      have HB9 := Lib.hid (HBy.out.1.trans (hbV.mono HBy.out.1.size))
                      clear hbV hc1 hd1' he1 hv0 v0 c0 c1 c2 d0' d1' e1
                      go_wp2
                      exact ⟨⟨j + 1, by omega, by go_num, HB9.out, HN.out⟩, by simp [intOf]; omega⟩
                  · obtain rfl : j = m := by omega
                    have HN := Lib.hid (HNx.out (fun q hq => hgq q hq (by rw [← HMl.out]; exact hq)))
                    have HBn := Lib.hid (HB7.out.1.trans (hby.mono (by omega)))
                    clear hby hbY hgq y1
                    go_wp2
                    exact ⟨⟨i + 1, by omega, by go_num, HBn.out, HN.out⟩, by simp [intOf]; omega⟩
            · obtain rfl : i = k := by omega
              have hok : nmOk (A.map (tyG T)) A = true := nmOk_good (fun p h1 h2 q hq => by
                have := hgd p h2 q hq (by rw [← HL.out]; exact h2)
                simpa using this)
              have HC := Lib.hid (HOn.out wr hbw HAll.out hok)
              have HR := Lib.hid (HSon.out HAll.out HEmp.out hok)
              have HBw := Lib.hid hbw
              clear hb x0 x1 hbw hgd hok
              go_wp2_with fail
              refine HC.out.mono ?_
              rintro en w9 ⟨rfl, hb9⟩
              have HB9 := Lib.hid (HBw.out.trans (hb9.mono HBw.out.size))
              clear hb9
              go_wp2
              go_ret
              exact scI_mk (by rw [HR.out]) HB9.out
end Go.Proofs.YtcfckgpjdaadeaaGreatDoor
