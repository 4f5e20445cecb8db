/- Rules that are not too many, and not too great; the examples. -/
import Derived.Test.YtbihhdkmmlldnaaGreatDoorAcAE
import Derived.Test.YtbihhdkmmlldnaaGreatDoorAcMN
import Derived.Test.YtbihhdkmmlldnaaGreatDoorPlD
namespace Go.Proofs.YtbihhdkmmlldnaaGreatDoor
set_option linter.unusedSimpArgs false
set_option linter.unusedVariables false
open Go Go.RowKit Go.Proofs.BerK Go.Proofs.MemK Go.Proofs.UtfK

set_option maxHeartbeats 3200000 in
set_option maxRecDepth 100000 in
theorem few16_any (v : Value) (L : List Rl) (w : World) (h : RlAt w v L) : Calls Tryz.prog 9 #[v] w (BoolPost (fewA L) w) := by
  obtain ⟨a, c, rfl, _⟩ := id h
  have HA := Lib.hid h
  clear h
  obtain ⟨n, hn⟩ : ∃ n, L.length = n := ⟨_, rfl⟩
  have HL := Lib.hid hn
  rw [hn]
  by_cases h0 : 12 < n
  · have H := Lib.hid (fewA_long (l := L) (by omega))
    have h1 : (12 : Int) < (n : Int) := by omega
    clear h0 hn
    go_enter Tryz.func9, Tryz.ntmps9
    go_wp2
    go_ret
    exact boolPost_mk H.out (Below.refl _ _)
  have h1 : ¬ (12 : Int) < (n : Int) := by omega
  have HO := Lib.hid (fewA_ok (l := L) (by omega))
  clear hn
  go_enter Tryz.func9, Tryz.ntmps9
  go_wp2
  go_loopw [3] (fun v wr => ∃ k : Nat, k ≤ n ∧ v = .int .i64 (k : Nat) ∧ wr = w ∧ (L.take k).all fewL = true) (fun v _ => n - (intOf v).toNat)
  case atStart => exact ⟨0, by omega, rfl, rfl, rfl⟩
  case round =>
    obtain ⟨k, hk, rfl, hwr, hall⟩ := hrel
    obtain rfl := hwr.symm
    by_cases hlt : k < n
    · have hkl : (k : Int) < (n : Int) := by omega
      have hkL : k < L.length := by rw [HL.out]; exact hlt
      have hA2 := HA.out
      obtain ⟨g, o, rfl, hg, c0, c1, c2, c3, c4⟩ := rlAt_five hA2 k hkL
      have HS := Lib.hid (all_snoc fewL L k hkL)
      have HB := Lib.hid (fun hq => fewA_bad k hkL hq)
      obtain ⟨⟨s0, s1, s2, s3, s4⟩, hr⟩ : ∃ x, L[k] = x := ⟨_, rfl⟩
      rw [hr] at c0 c1 c2 c3 c4 HS HB
      dsimp only at c0 c1 c2 c3 c4
      have HD : Hid (fewL (s0, s1, s2, s3, s4) = (decide (s0.length ≤ 200) && decide (s1.length ≤ 200) && decide (s2.length ≤ 80))) := Lib.hid rfl
      have HX := Lib.hid hall
      have hways : ((200 : Int) < (s0.length : Int) ∨ (¬ (200 : Int) < (s0.length : Int) ∧ (200 : Int) < (s1.length : Int)) ∨ (¬ (200 : Int) < (s0.length : Int) ∧ ¬ (200 : Int) < (s1.length : Int) ∧ (80 : Int) < (s2.length : Int))) ∨ (¬ (200 : Int) < (s0.length : Int) ∧ ¬ (200 : Int) < (s1.length : Int) ∧ ¬ (80 : Int) < (s2.length : Int)) := by omega
      clear hall hA2 hr h0
      rcases hways with hways | ⟨q1, q2, q3⟩
      · have HG := Lib.hid (HB.out (by
          rw [HD.out]
          rcases hways with q1 | ⟨q1, q2⟩ | ⟨q1, q2, q3⟩
          · rw [decide_eq_false (by omega)]; rfl
          · rw [decide_eq_false (p := s1.length ≤ 200) (by omega)]; simp
          · rw [decide_eq_false (p := s2.length ≤ 80) (by omega)]; simp))
        rcases hways with q1 | ⟨q1, q2⟩ | ⟨q1, q2, q3⟩
        all_goals
          go_wp2
          go_ret
          exact boolPost_mk HG.out (Below.refl _ _)
      · have HG := Lib.hid (show (L.take (k + 1)).all fewL = true by
          rw [HS.out, HX.out, HD.out, decide_eq_true (by omega), decide_eq_true (by omega), decide_eq_true (by omega)]; rfl)
        go_wp2
        exact ⟨⟨k + 1, by omega, by go_num, trivial, HG.out⟩, by simp [intOf]; omega⟩
    · obtain rfl : k = n := by omega
      have hl : L.take k = L := by rw [← HL.out]; exact List.take_length
      rw [hl] at hall
      have H := Lib.hid (HO.out hall)
      clear hall hl
      go_wp2
      go_ret
      exact boolPost_mk H.out (Below.refl _ _)

/-! ### The examples -/
def aR1 : Rl := ([99, 110, 61, 97], [100, 99, 61, 98], [83, 78], 1, false)
def aR2 : Rl := ([42], [], [42], 1, true)
def aL : List Rl := [aR1, aR2]
def aX : List Rl := [([67, 78, 61, 97], [], [], 0, false)]
def aY : List Rl := [([42], [], [42], 0, false)]
def pX : List Av := [([99, 110], [120])]
theorem gd_xb : GD [pX, pB] := gd_two _ _ (by decide +kernel) (by decide +kernel) (by decide +kernel) (by decide +kernel) (by decide +kernel)
theorem nr_xb : nrD [99, 110, 61, 120, 44, 100, 99, 61, 98] = some [pX, pB] := nr_lit gd_xb (by decide +kernel)
theorem nk_a : nrOk [99, 110, 61, 97] = true := by unfold nrOk; rw [nr_a]; rfl
theorem nk_b : nrOk [100, 99, 61, 98] = true := by unfold nrOk; rw [nr_b]; rfl
theorem nk_e : nrOk [] = true := by unfold nrOk; rw [nr_e]; rfl
theorem nk_CN : nrOk [67, 78, 61, 97] = false := by unfold nrOk; rw [nr_CN]; rfl
theorem un_1 : undL [99, 110, 61, 120, 44, 100, 99, 61, 98] [100, 99, 61, 98] = true := und_of (P := [pX]) nr_xb nr_b
theorem un_2 : undL [99, 110, 61, 120, 44, 100, 99, 61, 98] [] = true := und_of (P := [pX, pB]) (E := []) nr_xb nr_e
theorem un_3 : undL [100, 99, 61, 99] [] = true := und_of (P := [pC]) (E := []) nr_c nr_e
theorem aok_1 : rlOk aR1 = true := by unfold rlOk aR1; dsimp only; rw [nk_a, nk_b]; decide +kernel
theorem aok_2 : rlOk aR2 = true := by unfold rlOk aR2; dsimp only; rw [nk_e]; decide +kernel
theorem ack_l : ckA aL = 0 := by
  rw [ckA_ok (by decide) (by unfold aL; rw [List.all_cons, List.all_cons, aok_1, aok_2]; rfl)]
  decide +kernel
theorem ack_x : ckA aX = 13 := ckA_bad (by decide) 0 (by decide) (by
  show rlOk ([67, 78, 61, 97], [], [], 0, false) = false
  unfold rlOk; dsimp only; rw [nk_CN]; decide +kernel)
theorem ack_y : ckA aY = 1 := by
  rw [ckA_ok (by decide) (by
    show ([([42], [], [42], 0, false)] : List Rl).all rlOk = true
    rw [List.all_cons, List.all_nil, Bool.and_true]
    unfold rlOk; dsimp only; rw [nk_e]; decide +kernel)]
  decide +kernel
theorem al_1 : alA [] [99, 110, 61, 97] [100, 99, 61, 98] [99, 110] 1 = false := al_no (fr_no fun j hj => by simp at hj)
theorem al_2 : alA aL [99, 110, 61, 97] [99, 110, 61, 120, 44, 100, 99, 61, 98] [115, 110] 1 = false := by
  have h : frA aL [99, 110, 61, 97] [99, 110, 61, 120, 44, 100, 99, 61, 98] [115, 110] 1 = some 0 := fr_at ack_l 0 (by decide) (by
    show fitA [99, 110, 61, 97] [99, 110, 61, 120, 44, 100, 99, 61, 98] [115, 110] 1 aR1 = true
    unfold fitA aR1; dsimp only; rw [un_1]; decide +kernel) fun j _ h => by omega
  rw [al_at h (by decide)]; rfl
theorem fit_no1 (at_ attr : List UInt8) : fitA [99, 110, 61, 98] at_ attr 1 aR1 = false := by
  unfold fitA aR1; dsimp only
  have : ∀ b c : Bool, (((1 : Int) == 1) && (([99, 110, 61, 97] : List UInt8) == [42] || ([99, 110, 61, 97] : List UInt8) == [99, 110, 61, 98]) && b && c) = false := by decide +kernel
  exact this _ _
theorem fit_no2 (at_ attr : List UInt8) : fitA [] at_ attr 1 aR1 = false := by
  unfold fitA aR1; dsimp only
  have : ∀ b c : Bool, (((1 : Int) == 1) && (([99, 110, 61, 97] : List UInt8) == [42] || ([99, 110, 61, 97] : List UInt8) == []) && b && c) = false := by decide +kernel
  exact this _ _
theorem fit_no3 (who at_ attr : List UInt8) (r : Rl) (h : r.2.2.2.1 = 1) : fitA who at_ attr 2 r = false := by
  unfold fitA; rw [h]; simp
theorem al_3 : alA aL [99, 110, 61, 98] [99, 110, 61, 120, 44, 100, 99, 61, 98] [115, 110] 1 = true := by
  have h : frA aL [99, 110, 61, 98] [99, 110, 61, 120, 44, 100, 99, 61, 98] [115, 110] 1 = some 1 := fr_at ack_l 1 (by decide) (by
    show fitA [99, 110, 61, 98] [99, 110, 61, 120, 44, 100, 99, 61, 98] [115, 110] 1 aR2 = true
    unfold fitA aR2; dsimp only; rw [un_2]; decide +kernel) fun j _ h => by
      obtain rfl : j = 0 := by omega
      exact fit_no1 _ _
  rw [al_at h (by decide)]; rfl
theorem fr_4 : frA aL [] [100, 99, 61, 99] [101, 110, 116, 114, 121] 1 = some 1 := fr_at ack_l 1 (by decide) (by
    show fitA [] [100, 99, 61, 99] [101, 110, 116, 114, 121] 1 aR2 = true
    unfold fitA aR2; dsimp only; rw [un_3]; decide +kernel) fun j _ h => by
      obtain rfl : j = 0 := by omega
      exact fit_no2 _ _
theorem al_5 : alA aL [] [100, 99, 61, 99] [99, 110] 2 = false := al_no (fr_no fun j hj => by
  have hj2 : j = 0 ∨ j = 1 := by simp [aL] at hj; omega
  rcases hj2 with rfl | rfl <;> exact fit_no3 _ _ _ _ rfl)
/-- What a rule by hand is. -/
def RlPost (r : Rl) (w : World) (en : Ending) (w' : World) : Prop := en = .returned (.agg #[.string ⟨r.1.toArray⟩, .string ⟨r.2.1.toArray⟩, .string ⟨r.2.2.1.toArray⟩, .int .i64 r.2.2.2.1, .bool r.2.2.2.2]) ∧ Below w.heap.size w w'
theorem arule_any (a b c : List UInt8) (d : Bool) (w : World) : Calls Tryz.prog 28 #[.string ⟨a.toArray⟩, .string ⟨b.toArray⟩, .string ⟨c.toArray⟩, .bool d] w (RlPost (a, b, c, 1, d) w) := by
  go_enter Tryz.func28, Tryz.ntmps28
  go_wp2
  have hg := heap_alloc_new w (.cells #[.string ⟨a.toArray⟩, .string ⟨b.toArray⟩, .string ⟨c.toArray⟩, .int .i64 1, .bool d] 34)
  have c0 := obj_cell hg 0 _ rfl
  have c1 := obj_cell hg 1 _ rfl
  have c2 := obj_cell hg 2 _ rfl
  have c3 := obj_cell hg 3 _ rfl
  have c4 := obj_cell hg 4 _ rfl
  refine bodyPost_ret (v := .agg #[.string ⟨a.toArray⟩, .string ⟨b.toArray⟩, .string ⟨c.toArray⟩, .int .i64 1, .bool d]) (by simp [results, Tryz.results28, go_sem, c0, c1, c2, c3, c4]) rfl ?_
  exact ⟨rfl, (Below.refl _ w).alloc (Nat.le_refl _) _⟩
set_option maxHeartbeats 12800000 in
set_option maxRecDepth 100000 in
theorem awake16_any (w : World) (he : ErrOk w) : Calls Tryz.prog 10 #[] w (BoolPost true w) := by
  have HE := Lib.hid (fun w' (hb : Below w.heap.size w w') => errOk_below he hb)
  have R1 : Hid (∀ w, Calls Tryz.prog 28 #[.string ⟨#[99, 110, 61, 97]⟩, .string ⟨#[100, 99, 61, 98]⟩, .string ⟨#[83, 78]⟩, .bool false] w (RlPost aR1 w)) := fun w => arule_any [99, 110, 61, 97] [100, 99, 61, 98] [83, 78] false w
  have R2 : Hid (∀ w, Calls Tryz.prog 28 #[.string ⟨#[42]⟩, .string ⟨#[]⟩, .string ⟨#[42]⟩, .bool true] w (RlPost aR2 w)) := fun w => arule_any [42] [] [42] true w
  have A1 : Hid (∀ w, ErrOk w → Calls Tryz.prog 15 #[.slice none 0 0, .string ⟨#[99, 110, 61, 97]⟩, .string ⟨#[100, 99, 61, 98]⟩, .string ⟨#[99, 110]⟩, .int .i64 1] w (BoolPost false w)) := fun w he => by rw [← al_1]; exact allowed_any _ [] _ _ _ _ w he (rlAt_nil w none 0)
  have A2 : Hid (∀ v w, ErrOk w → RlAt w v aL → Calls Tryz.prog 15 #[v, .string ⟨#[99, 110, 61, 97]⟩, .string ⟨#[99, 110, 61, 120, 44, 100, 99, 61, 98]⟩, .string ⟨#[115, 110]⟩, .int .i64 1] w (BoolPost false w)) := fun v w he h => by rw [← al_2]; exact allowed_any _ _ _ _ _ _ w he h
  have A3 : Hid (∀ v w, ErrOk w → RlAt w v aL → Calls Tryz.prog 15 #[v, .string ⟨#[99, 110, 61, 98]⟩, .string ⟨#[99, 110, 61, 120, 44, 100, 99, 61, 98]⟩, .string ⟨#[115, 110]⟩, .int .i64 1] w (BoolPost true w)) := fun v w he h => by rw [← al_3]; exact allowed_any _ _ _ _ _ _ w he h
  have A4 : Hid (∀ v w, ErrOk w → RlAt w v aL → Calls Tryz.prog 13 #[v, .string ⟨#[]⟩, .string ⟨#[100, 99, 61, 99]⟩, .string ⟨#[101, 110, 116, 114, 121]⟩, .int .i64 1] w (DepPost 1 w)) := fun v w he h => by
    have := afirst_any v aL [] [100, 99, 61, 99] [101, 110, 116, 114, 121] 1 w he h
    rw [fr_4] at this
    exact this
  have A5 : Hid (∀ v w, ErrOk w → RlAt w v aL → Calls Tryz.prog 15 #[v, .string ⟨#[]⟩, .string ⟨#[100, 99, 61, 99]⟩, .string ⟨#[99, 110]⟩, .int .i64 2] w (BoolPost false w)) := fun v w he h => by rw [← al_5]; exact allowed_any _ _ [] _ _ _ w he h
  have A6 : Hid (∀ v w, ErrOk w → RlAt w v aX → Calls Tryz.prog 11 #[v] w (NumPost 13 w)) := fun v w he h => by rw [← ack_x]; exact acheck_any _ _ w he h
  have A7 : Hid (∀ v w, ErrOk w → RlAt w v aY → Calls Tryz.prog 11 #[v] w (NumPost 1 w)) := fun v w he h => by rw [← ack_y]; exact acheck_any _ _ w he h
  clear he
  go_enter Tryz.func10, Tryz.ntmps10
  go_wp2_with fail
  refine (R1.out w).mono ?_
  rintro e w1 ⟨rfl, hb⟩
  have B1 := Lib.hid hb
  clear hb
  go_wp2_with fail
  refine (R2.out w1).mono ?_
  rintro e w2 ⟨rfl, hb⟩
  have B2 := Lib.hid (B1.out.trans (hb.mono B1.out.size))
  clear hb
  go_wp2_with fail
  generalize hW : w2.alloc _ = W
  have hg : W.heap[w2.heap.size]? = some (.cells (rlCs aL).toArray 34 (0, 0)) := by rw [← hW]; exact heap_alloc_new w2 _
  have HR := Lib.hid (rlAt_block 2 hg)
  change Hid (RlAt W (.slice (some ⟨w2.heap.size, 0, none⟩) 2 2) aL) at HR
  have B3 := Lib.hid (show Below w.heap.size w W by rw [← hW]; exact B2.out.alloc B2.out.size _)
  clear hg hW
  refine (A1.out W (HE.out _ B3.out)).mono ?_
  rintro e w4 ⟨rfl, hb⟩
  have B4 := Lib.hid (And.intro (B3.out.trans (hb.mono B3.out.size)) (rlAt_below HR.out hb))
  clear hb
  go_wp2_with fail
  refine (A2.out _ _ (HE.out _ B4.out.1) B4.out.2).mono ?_
  rintro e w5 ⟨rfl, hb⟩
  have B5 := Lib.hid (And.intro (B4.out.1.trans (hb.mono B4.out.1.size)) (rlAt_below B4.out.2 hb))
  clear hb
  go_wp2_with fail
  refine (A3.out _ _ (HE.out _ B5.out.1) B5.out.2).mono ?_
  rintro e w6 ⟨rfl, hb⟩
  have B6 := Lib.hid (And.intro (B5.out.1.trans (hb.mono B5.out.1.size)) (rlAt_below B5.out.2 hb))
  clear hb
  go_wp2_with fail
  refine (A4.out _ _ (HE.out _ B6.out.1) B6.out.2).mono ?_
  rintro e w7 ⟨rfl, hb⟩
  have B7 := Lib.hid (And.intro (B6.out.1.trans (hb.mono B6.out.1.size)) (rlAt_below B6.out.2 hb))
  clear hb
  go_wp2_with fail
  refine (A5.out _ _ (HE.out _ B7.out.1) B7.out.2).mono ?_
  rintro e w8 ⟨rfl, hb⟩
  have B8 := Lib.hid (B7.out.1.trans (hb.mono B7.out.1.size))
  clear hb
  go_wp2_with fail
  generalize hW : w8.alloc _ = W8
  have hg : W8.heap[w8.heap.size]? = some (.cells (rlCs aX).toArray 34 (0, 0)) := by rw [← hW]; exact heap_alloc_new w8 _
  have HR8 := Lib.hid (rlAt_block 1 hg)
  change Hid (RlAt W8 (.slice (some ⟨w8.heap.size, 0, none⟩) 1 1) aX) at HR8
  have B9 := Lib.hid (show Below w.heap.size w W8 by rw [← hW]; exact B8.out.alloc B8.out.size _)
  clear hg hW
  refine (A6.out _ _ (HE.out _ B9.out) HR8.out).mono ?_
  rintro e w9 ⟨rfl, hb⟩
  have B10 := Lib.hid (B9.out.trans (hb.mono B9.out.size))
  clear hb
  go_wp2_with fail
  generalize hW : w9.alloc _ = W9
  have hg : W9.heap[w9.heap.size]? = some (.cells (rlCs aY).toArray 34 (0, 0)) := by rw [← hW]; exact heap_alloc_new w9 _
  have HR9 := Lib.hid (rlAt_block 1 hg)
  change Hid (RlAt W9 (.slice (some ⟨w9.heap.size, 0, none⟩) 1 1) aY) at HR9
  have B11 := Lib.hid (show Below w.heap.size w W9 by rw [← hW]; exact B10.out.alloc B10.out.size _)
  clear hg hW
  refine (A7.out _ _ (HE.out _ B11.out) HR9.out).mono ?_
  rintro e w10 ⟨rfl, hb⟩
  have B12 := Lib.hid (B11.out.trans (hb.mono B11.out.size))
  clear hb
  go_wp2
  go_ret
  exact boolPost_mk (by rfl) B12.out
end Go.Proofs.YtbihhdkmmlldnaaGreatDoor
