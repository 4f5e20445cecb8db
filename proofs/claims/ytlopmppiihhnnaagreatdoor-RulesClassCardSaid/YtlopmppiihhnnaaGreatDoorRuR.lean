/- The law on values that count as the same, for every rule and every three texts. -/
import Derived.Test.YtlopmppiihhnnaaGreatDoorRuJ
namespace Go.Proofs.YtlopmppiihhnnaaGreatDoor
set_option linter.unusedSimpArgs false
set_option linter.unusedVariables false
open Go Go.RowKit Go.Proofs.BerK Go.Proofs.MemK Go.Proofs.UtfK

/-- A value that may be, and is not too long. -/
def goodR (r : Int) (x : List UInt8) : Prop := (ruN r x).2 = true ∧ x.length ≤ 300
theorem good_int {r : Int} {x X : List UInt8} (hg : goodR r x) (hX : ruN r x = (X, true)) (hr : r = 3) : ∃ l, intL l = (X, true) := by
  subst hr
  refine ⟨x, ?_⟩
  rw [← hX, ruN_3 (by have := hg.2; omega)]
/-- How the comparisons of three values that may be come out. -/
theorem class_ways (r : Int) (X Y Z : List UInt8) (h : r = 3 → (∃ l, intL l = (X, true)) ∧ ∃ l, intL l = (Y, true)) :
    ∃ ab bc ac up down : Int, eqP (X, true) (Y, true) = ab ∧ eqP (Y, true) (X, true) = ab ∧ eqP (Y, true) (Z, true) = bc ∧ eqP (X, true) (Z, true) = ac ∧ (r ≠ 5 → ordP r (X, true) (Y, true) = up ∧ ordP r (Y, true) (X, true) = down) ∧
      ((ab = 1 ∧ bc = 0 ∧ up = 1 ∧ down = 1) ∨ (ab = 1 ∧ bc = 1 ∧ ac = 1 ∧ up = 1 ∧ down = 1) ∨ (ab = 0 ∧ up = 1 ∧ down = 0) ∨ (ab = 0 ∧ up = 0 ∧ down = 1)) := by
  refine ⟨tv (X == Y), tv (Y == Z), tv (X == Z), tv (X == Y || lsR r X Y), tv (Y == X || lsR r Y X), eqP_one _ _, by rw [eqP_one, Bool.beq_comm], eqP_one _ _, eqP_one _ _, fun h5 => ⟨ordP_one _ _ _ h5, ordP_one _ _ _ h5⟩, ?_⟩
  rcases ls_ways r X Y h with ⟨rfl, h1⟩ | ⟨h1, h2, h3⟩ | ⟨h1, h2, h3⟩
  · by_cases hz : X = Z
    · subst hz; exact .inr (.inl (by simp [tv]))
    · exact .inl (by simp [tv, hz])
  · have h4 : ¬ Y = X := fun e => h1 e.symm
    exact .inr (.inr (.inl (by simp [tv, h1, h2, h3, h4])))
  · have h4 : ¬ Y = X := fun e => h1 e.symm
    exact .inr (.inr (.inr (by simp [tv, h1, h2, h3, h4])))
set_option maxHeartbeats 6400000 in
set_option maxRecDepth 100000 in
theorem ruclass_any (n : Nat) (hn : n < 256) (x y z : List UInt8) (w : World) (he : ErrOk w) (hk : MlOk w) :
    Calls Tryz.prog 4 #[.int .u8 (n : Nat), .agg #[.string ⟨x.toArray⟩, .string ⟨y.toArray⟩, .string ⟨z.toArray⟩]] w (BoolPost true w) := by
  obtain ⟨m, hm⟩ : ∃ m, n % 5 = m := ⟨_, rfl⟩
  have hm5 : m < 5 := by rw [← hm]; exact Nat.mod_lt _ (by decide)
  have hmod : Int.tmod (n : Int) 5 = (m : Int) := by rw [Int.tmod_eq_emod_of_nonneg (by omega), ← hm]; rfl
  obtain ⟨r, hr⟩ : ∃ r : Int, (m : Int) + 1 = r := ⟨_, rfl⟩
  have HN := Lib.hid (fun q w' (hb : Below w.heap.size w w') => runorm_any r q w' (errOk_below he hb))
  have HE := Lib.hid (fun a b w' (hb : Below w.heap.size w w') => ruequal_any r a b w' (errOk_below he hb))
  have HO := Lib.hid (fun a b w' (hb : Below w.heap.size w w') => ruorder_any r a b w' (errOk_below he hb))
  have HW := Lib.hid (fun w' (hb : Below w.heap.size w w') => ruawake_any w' (errOk_below he hb) (mlOk_below hk hb))
  have HB := Lib.hid (heap_alloc_new w (.cells #[.string ⟨x.toArray⟩, .string ⟨y.toArray⟩, .string ⟨z.toArray⟩] 33))
  clear he hk hm
  go_enter Tryz.func4, Tryz.ntmps4
  go_wp2
  go_loopw [6] (fun v wr => ∃ k : Nat, k ≤ 3 ∧ v = .int .i64 (k : Nat) ∧ Below w.heap.size w wr ∧ wr.heap[w.heap.size]? = some (.cells #[.string ⟨x.toArray⟩, .string ⟨y.toArray⟩, .string ⟨z.toArray⟩] 33 (0, 0)) ∧ ∀ j q, j < k → [x, y, z][j]? = some q → goodR r q) (fun v _ => 3 - (intOf v).toNat)
  case atStart => exact ⟨0, by omega, rfl, (Below.refl _ w).alloc (Nat.le_refl _) _, HB.out, fun j q h => by omega⟩
  case round =>
    obtain ⟨k, hk, rfl, hb, hbox, hgood⟩ := hrel
    by_cases hlt : k < 3
    · have hkl : (k : Int) < 3 := by omega
      obtain ⟨q, hq, hcell⟩ : ∃ q, [x, y, z][k]? = some q ∧ wr.cell? ⟨w.heap.size, k, none⟩ = some (.string ⟨q.toArray⟩) := by
        have : k = 0 ∨ k = 1 ∨ k = 2 := by omega
        rcases this with rfl | rfl | rfl
        · exact ⟨x, rfl, obj_cell hbox 0 _ rfl⟩
        · exact ⟨y, rfl, obj_cell hbox 1 _ rfl⟩
        · exact ⟨z, rfl, obj_cell hbox 2 _ rfl⟩
      have HQ := Lib.hid (HN.out q wr hb)
      have zb := obj_lt hbox
      obtain ⟨P, hP⟩ : ∃ P, ruN r q = P := ⟨_, rfl⟩
      rw [hP] at HQ
      obtain ⟨X, ok⟩ := P
      have HB3 := Lib.hid (And.intro hb hbox)
      by_cases hg : goodR r q
      · obtain rfl : ok = true := by have := hg.1; rw [hP] at this; exact this
        have q300 : ¬ (300 : Int) < (q.length : Int) := by have := hg.2; omega
        have HG := Lib.hid (show ∀ j p, j < k + 1 → [x, y, z][j]? = some p → goodR r p from fun j p hj hp => by
          by_cases hjk : j = k
          · subst hjk
            rw [hq] at hp
            injection hp with hp
            rw [← hp]; exact hg
          · exact hgood j p (by omega) hp)
        clear hb hbox hgood hg hP hq
        go_wp2_with fail
        refine HQ.out.mono ?_
        rintro e w2 ⟨rfl, hb2⟩
        have c2 := (hb2.cell (p := ⟨w.heap.size, k, none⟩) zb).trans hcell
        have HB4 := Lib.hid (And.intro (HB3.out.1.trans (hb2.mono HB3.out.1.size)) (obj_below HB3.out.2 hb2 zb))
        clear hb2 hcell
        go_wp2
        exact ⟨⟨k + 1, by omega, by go_num, HB4.out.1, HB4.out.2, HG.out⟩, by simp [intOf]; omega⟩
      · have hw : ok = false ∨ (ok = true ∧ (300 : Int) < (q.length : Int)) := by
          cases ok
          · exact .inl rfl
          · refine .inr ⟨rfl, ?_⟩
            have : ¬ q.length ≤ 300 := fun h => hg ⟨by rw [hP], h⟩
            omega
        clear hb hbox hgood hg hP hq
        rcases hw with rfl | ⟨rfl, q300⟩
        all_goals
          go_wp2_with fail
          refine HQ.out.mono ?_
          rintro e w2 ⟨rfl, hb2⟩
          have c2 := (hb2.cell (p := ⟨w.heap.size, k, none⟩) zb).trans hcell
          have HB4 := Lib.hid (HB3.out.1.trans (hb2.mono HB3.out.1.size))
          clear hb2 hcell
          go_wp2_with fail
          refine (HW.out _ HB4.out).mono ?_
          rintro e w3 ⟨rfl, hb3⟩
          have HB5 := Lib.hid (HB4.out.trans (hb3.mono HB4.out.size))
          clear hb3
          go_wp2
          go_ret
          exact boolPost_mk rfl HB5.out
    · obtain rfl : k = 3 := by omega
      have gx := hgood 0 x (by omega) rfl
      have gy := hgood 1 y (by omega) rfl
      have gz := hgood 2 z (by omega) rfl
      obtain ⟨X, hX⟩ : ∃ X, ruN r x = (X, true) := ⟨(ruN r x).1, by rw [← gx.1]⟩
      obtain ⟨Y, hY⟩ : ∃ X, ruN r y = (X, true) := ⟨(ruN r y).1, by rw [← gy.1]⟩
      obtain ⟨Z, hZ⟩ : ∃ X, ruN r z = (X, true) := ⟨(ruN r z).1, by rw [← gz.1]⟩
      obtain ⟨ab, bc, ac, up, down, t1, t2, t3, t4, t5, hways⟩ := class_ways r X Y Z (fun h => ⟨good_int gx hX h, good_int gy hY h⟩)
      have E0 := Lib.hid (HE.out x x)
      have E1 := Lib.hid (HE.out x y)
      have E2 := Lib.hid (HE.out y x)
      have E3 := Lib.hid (HE.out y z)
      have E4 := Lib.hid (HE.out x z)
      have O1 := Lib.hid (HO.out x y)
      have O2 := Lib.hid (HO.out y x)
      rw [hX, eqP_same] at E0
      rw [hX, hY, t1] at E1
      rw [hX, hY, t2] at E2
      rw [hY, hZ, t3] at E3
      rw [hX, hZ, t4] at E4
      rw [hX, hY] at O1 O2
      obtain ⟨c0, c1, c2⟩ := obj3 hbox
      have zb := obj_lt hbox
      have HB4 := Lib.hid hb
      have hbW : Below wr.heap.size wr wr := Below.refl _ _
      clear hb hbox hgood gx gy gz hX hY hZ t1 t2 t3 t4 hr hmod hm5
      go_wp2_with fail
      go_region_held3 (fun w' => w'.cell? ⟨w.heap.size, 0, none⟩ = some (.string ⟨x.toArray⟩) ∧ w'.cell? ⟨w.heap.size, 1, none⟩ = some (.string ⟨y.toArray⟩) ∧ w'.cell? ⟨w.heap.size, 2, none⟩ = some (.string ⟨z.toArray⟩)) (first | exact ⟨e0, e1, e2⟩ | exact ⟨c0, c1, c2⟩ | go_keep)
        (first | (go_at_call 10; (with_reducible refine (E1.out _ (by first | exact HbW.out | exact HB4.out.drew)).mono ?_); rintro en w5 ⟨rfl, hb5⟩; have hbW : Below wr.heap.size wr w5 := (by first | exact hbW.trans (hb5.mono hbW.size) | exact (Below.refl _ wr).drew.trans hb5); have e0 := (hbW.cell (p := ⟨w.heap.size, 0, none⟩) zb).trans c0; have e1 := (hbW.cell (p := ⟨w.heap.size, 1, none⟩) zb).trans c1; have e2 := (hbW.cell (p := ⟨w.heap.size, 2, none⟩) zb).trans c2; have HbW := Lib.hid (HB4.out.trans (hbW.mono HB4.out.size))) | (go_at_call 10; (with_reducible refine (E3.out _ (by first | exact HbW.out | exact HB4.out.drew)).mono ?_); rintro en w5 ⟨rfl, hb5⟩; have hbW : Below wr.heap.size wr w5 := (by first | exact hbW.trans (hb5.mono hbW.size) | exact (Below.refl _ wr).drew.trans hb5); have e0 := (hbW.cell (p := ⟨w.heap.size, 0, none⟩) zb).trans c0; have e1 := (hbW.cell (p := ⟨w.heap.size, 1, none⟩) zb).trans c1; have e2 := (hbW.cell (p := ⟨w.heap.size, 2, none⟩) zb).trans c2; have HbW := Lib.hid (HB4.out.trans (hbW.mono HB4.out.size))) | (go_at_call 10; (with_reducible refine (E4.out _ (by first | exact HbW.out | exact HB4.out.drew)).mono ?_); rintro en w5 ⟨rfl, hb5⟩; have hbW : Below wr.heap.size wr w5 := (by first | exact hbW.trans (hb5.mono hbW.size) | exact (Below.refl _ wr).drew.trans hb5); have e0 := (hbW.cell (p := ⟨w.heap.size, 0, none⟩) zb).trans c0; have e1 := (hbW.cell (p := ⟨w.heap.size, 1, none⟩) zb).trans c1; have e2 := (hbW.cell (p := ⟨w.heap.size, 2, none⟩) zb).trans c2; have HbW := Lib.hid (HB4.out.trans (hbW.mono HB4.out.size))))
      have HB5 := Lib.hid HbW.out
      have f0 := e0
      have f1 := e1
      have zb5 := Lib.lt_of_cell f0
      clear hbW e0 e1 e2 HbW c0 c1 c2 hb5
      rcases hways with ⟨rfl, rfl, rfl, rfl⟩ | ⟨rfl, rfl, rfl, rfl, rfl⟩ | ⟨rfl, rfl, rfl⟩ | ⟨rfl, rfl, rfl⟩
      all_goals
        by_cases h5 : r = 5
        · subst h5
          clear t5 O1 O2
          go_wp2_with fail
          refine (E0.out _ HB5.out).mono ?_
          rintro en w6 ⟨rfl, hb6⟩
          have g0 := (hb6.cell (p := ⟨w.heap.size, 0, none⟩) zb5).trans f0
          have g1 := (hb6.cell (p := ⟨w.heap.size, 1, none⟩) zb5).trans f1
          have HB6 := Lib.hid (HB5.out.trans (hb6.mono HB5.out.size))
          clear hb6 f0 f1
          go_wp2_with fail
          refine (E2.out _ HB6.out).mono ?_
          rintro en w7 ⟨rfl, hb7⟩
          have HB7 := Lib.hid (HB6.out.trans (hb7.mono HB6.out.size))
          clear hb7 g0 g1
          go_wp2_with fail
          refine (HW.out _ HB7.out).mono ?_
          rintro en w8 ⟨rfl, hb8⟩
          have HB8 := Lib.hid (HB7.out.trans (hb8.mono HB7.out.size))
          clear hb8
          go_wp2
          go_ret
          exact boolPost_mk rfl HB8.out
        · obtain ⟨u1, u2⟩ := t5 h5
          have P1 := Lib.hid O1.out
          have P2 := Lib.hid O2.out
          rw [u1] at P1
          rw [u2] at P2
          have h5f : (r == 5) = false := by simpa using h5
          clear t5 O1 O2 u1 u2 h5
          go_wp2_with fail
          refine (E0.out _ HB5.out).mono ?_
          rintro en w6 ⟨rfl, hb6⟩
          have g0 := (hb6.cell (p := ⟨w.heap.size, 0, none⟩) zb5).trans f0
          have g1 := (hb6.cell (p := ⟨w.heap.size, 1, none⟩) zb5).trans f1
          have zb6 := Nat.lt_of_lt_of_le zb5 hb6.size
          have HB6 := Lib.hid (HB5.out.trans (hb6.mono HB5.out.size))
          clear hb6 f0 f1
          go_wp2_with fail
          refine (E2.out _ HB6.out).mono ?_
          rintro en w7 ⟨rfl, hb7⟩
          have d0 := (hb7.cell (p := ⟨w.heap.size, 0, none⟩) zb6).trans g0
          have d1 := (hb7.cell (p := ⟨w.heap.size, 1, none⟩) zb6).trans g1
          have zb7 := Nat.lt_of_lt_of_le zb6 hb7.size
          have HB7 := Lib.hid (HB6.out.trans (hb7.mono HB6.out.size))
          have hbV : Below w7.heap.size w7 w7 := Below.refl _ _
          clear hb7 g0 g1
          go_wp2_with fail
          go_region_held3 (fun w' => w'.cell? ⟨w.heap.size, 0, none⟩ = some (.string ⟨x.toArray⟩) ∧ w'.cell? ⟨w.heap.size, 1, none⟩ = some (.string ⟨y.toArray⟩)) (first | exact ⟨k0, k1⟩ | exact ⟨d0, d1⟩ | go_keep)
            (first | (go_at_call 12; (with_reducible refine (P1.out _ (by first | exact HbV.out | exact HB7.out.drew)).mono ?_); rintro en w8 ⟨rfl, hb8⟩; have hbV : Below w7.heap.size w7 w8 := (by first | exact hbV.trans (hb8.mono hbV.size) | exact (Below.refl _ w7).drew.trans hb8); have k0 := (hbV.cell (p := ⟨w.heap.size, 0, none⟩) zb7).trans d0; have k1 := (hbV.cell (p := ⟨w.heap.size, 1, none⟩) zb7).trans d1; have HbV := Lib.hid (HB7.out.trans (hbV.mono HB7.out.size))) | (go_at_call 12; (with_reducible refine (P2.out _ (by first | exact HbV.out | exact HB7.out.drew)).mono ?_); rintro en w8 ⟨rfl, hb8⟩; have hbV : Below w7.heap.size w7 w8 := (by first | exact hbV.trans (hb8.mono hbV.size) | exact (Below.refl _ w7).drew.trans hb8); have k0 := (hbV.cell (p := ⟨w.heap.size, 0, none⟩) zb7).trans d0; have k1 := (hbV.cell (p := ⟨w.heap.size, 1, none⟩) zb7).trans d1; have HbV := Lib.hid (HB7.out.trans (hbV.mono HB7.out.size))))
          have HB8 := Lib.hid HbV.out
          clear hbV k0 k1 HbV d0 d1 hb8
          go_wp2_with fail
          refine (HW.out _ HB8.out).mono ?_
          rintro en w9 ⟨rfl, hb9⟩
          have HB9 := Lib.hid (HB8.out.trans (hb9.mono HB8.out.size))
          clear hb9
          go_wp2
          go_ret
          exact boolPost_mk rfl HB9.out
end Go.Proofs.YtlopmppiihhnnaaGreatDoor
