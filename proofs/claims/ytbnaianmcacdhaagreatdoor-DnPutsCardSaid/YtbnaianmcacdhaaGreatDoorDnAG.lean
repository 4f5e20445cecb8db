/- The law's own given texts come out as said. -/
import Derived.Test.YtbnaianmcacdhaaGreatDoorDnAF
import Derived.Test.YtbnaianmcacdhaaGreatDoorDnD
namespace Go.Proofs.YtbnaianmcacdhaaGreatDoor
set_option linter.unusedSimpArgs false
set_option linter.unusedVariables false
open Go Go.RowKit Go.Proofs.BerK Go.Proofs.MemK Go.Proofs.UtfK

theorem rd_err {n : Nat} (hn : n ≠ 0) {e1 e2 : TypeId} {w w' : World} {en : Ending} (h : RdPost ([], n) e1 e2 w en w') : en = .returned (.tuple #[.slice none 0 0, .int .i64 (n : Nat)]) ∧ Below w.heap.size w w' := by
  rcases h with ⟨_, h, hb⟩ | ⟨h, _⟩
  · exact ⟨h, hb⟩
  · exact absurd h hn
theorem rd_nil {e1 e2 : TypeId} {w w' : World} {en : Ending} (h : RdPost ([], 0) e1 e2 w en w') : ∃ a, en = .returned (.tuple #[.slice a 0 0, .int .i64 0]) ∧ Below w.heap.size w w' := by
  rcases h with ⟨_, h, hb⟩ | ⟨_, g, gs, h, _, hb⟩
  · exact ⟨_, h, hb⟩
  · exact ⟨_, h, hb⟩
theorem rd_some {D : List (List Av)} (hD : D ≠ []) {n : Nat} {e1 e2 : TypeId} {w w' : World} {en : Ending} (h : RdPost (D, n) e1 e2 w en w') : ∃ g gs, en = .returned (.tuple #[rowV g D.length, .int .i64 0]) ∧ DnBlk w' w.heap.size g gs D 0 e1 e2 ∧ Below w.heap.size w w' := by
  rcases h with ⟨h, _⟩ | ⟨_, g, gs, h, h2⟩
  · exact absurd h hD
  · exact ⟨g, gs, h, h2⟩
/-- The cells of a part's pair. -/
theorem blk_cells {w : World} {B g : Nat} {gs : List Nat} {D : List (List Av)} {e1 e2 : TypeId} (h : DnBlk w B g gs D 0 e1 e2) (i : Nat) (hi : i < D.length) : ∃ gi, gi < w.heap.size ∧ g < w.heap.size ∧ w.cell? ⟨g, i, none⟩ = some (.slice (some ⟨gi, 0, none⟩) D[i].length D[i].length) ∧
    ∀ j (hj : j < D[i].length), w.cell? ⟨gi, j * 2, none⟩ = some (.string ⟨D[i][j].1.toArray⟩) ∧ w.cell? ⟨gi, j * 2 + 1, none⟩ = some (.string ⟨D[i][j].2.toArray⟩) := by
  have hi' : i < gs.length := by rw [h.len]; exact hi
  have hr := (h.rows i hi' hi).2.2
  refine ⟨gs[i], obj_lt hr, obj_lt h.outer, ?_, fun j hj => ⟨obj_cell hr (j * 2) _ (by simpa using (avc_at D[i] j hj).1), obj_cell hr (j * 2 + 1) _ (by simpa using (avc_at D[i] j hj).2)⟩⟩
  exact obj_cell h.outer i _ (by simpa [rowV] using ovc_at gs D i hi' hi)

set_option maxHeartbeats 6400000 in
set_option maxRecDepth 100000 in
theorem dawake_any (w : World) (he : ErrOk w) : Calls Tryz.prog 6 #[] w (BoolPost true w) := by
  have HN : Hid (Calls Tryz.prog 14 #[.string ⟨#[67, 78, 32, 61, 32, 65, 108, 32, 32, 75, 111, 32, 44, 32, 68, 67, 61, 120]⟩] w (PutPost ([99, 110, 61, 97, 108, 32, 107, 111, 44, 100, 99, 61, 120], 0) w)) := by
    have h := dnorm_any ⟨#[67, 78, 32, 61, 32, 65, 108, 32, 32, 75, 111, 32, 44, 32, 68, 67, 61, 120]⟩ w he
    have e := lit_no1
    rw [← e]; exact h
  have H1 : Hid (∀ w, ErrOk w → Calls Tryz.prog 13 #[.string ⟨#[97, 61, 92, 35, 98, 92, 50, 99, 43, 99, 61, 100, 92, 32]⟩] w (RdPost ([[([97], [35, 98, 44]), ([99], [100, 32])]], 0) 40 38 w)) := fun w he => by
    have h := dread_any ⟨#[97, 61, 92, 35, 98, 92, 50, 99, 43, 99, 61, 100, 92, 32]⟩ w he
    rw [← lit_rd2]; exact h
  have H3 : Hid (∀ w, ErrOk w → Calls Tryz.prog 13 #[.string ⟨#[97, 61, 98, 44]⟩] w (RdPost ([], 5) 40 38 w)) := fun w he => by
    have h := dread_any ⟨#[97, 61, 98, 44]⟩ w he
    rw [← lit_rd3]; exact h
  have H4 : Hid (∀ w, ErrOk w → Calls Tryz.prog 13 #[.string ⟨#[97, 61, 49, 43, 65, 61, 50]⟩] w (RdPost ([], 5) 40 38 w)) := fun w he => by
    have h := dread_any ⟨#[97, 61, 49, 43, 65, 61, 50]⟩ w he
    rw [← lit_rd4]; exact h
  have H5 : Hid (∀ w, ErrOk w → Calls Tryz.prog 13 #[.string ⟨#[]⟩] w (RdPost ([], 0) 40 38 w)) := fun w he => by
    have h := dread_any ⟨#[]⟩ w he
    rw [← lit_rd5]; exact h
  have HS : Hid (∀ w, Calls Tryz.prog 11 #[.string ⟨#[32]⟩] w (StrPost [92, 32] w)) := fun w => by
    have h := desc_any ⟨#[32]⟩ (by decide) w
    rw [← lit_es]; exact h
  have HE := Lib.hid he
  clear he
  go_enter Tryz.func6, Tryz.ntmps6
  go_wp2_with fail
  refine HN.out.mono ?_
  rintro e w1 ⟨rfl, hb1⟩
  have B1 := Lib.hid hb1
  clear hb1
  go_wp2_with fail
  refine (H1.out w1 (errOk_below HE.out B1.out)).mono ?_
  intro e w2 h2
  obtain ⟨g, gs, rfl, hd, hb2⟩ := rd_some (by simp) h2
  have B2 := Lib.hid (B1.out.trans (hb2.mono B1.out.size))
  have HP := Lib.hid (dput_any _ _ w2 (dnAt_blk hd))
  rw [lit_pu2] at HP
  obtain ⟨gi, l1, l2, c1, c2⟩ := blk_cells hd 0 (by simp)
  obtain ⟨c3, c4⟩ := c2 0 (by simp)
  obtain ⟨c5, c6⟩ := c2 1 (by simp)
  have C := Lib.hid (And.intro l1 (And.intro l2 (And.intro (show w2.cell? ⟨g, 0, none⟩ = some (.slice (some ⟨gi, 0, none⟩) 2 2) from c1) (And.intro (show w2.cell? ⟨gi, 1, none⟩ = some (.string ⟨#[35, 98, 44]⟩) from c4) (show w2.cell? ⟨gi, 3, none⟩ = some (.string ⟨#[100, 32]⟩) from c6)))))
  clear h2 hd hb2 l1 l2 c1 c2 c3 c4 c5 c6
  unfold rowV at HP ⊢
  go_wp2_with fail
  refine HP.out.mono ?_
  rintro e w3 ⟨rfl, hb3⟩
  have B3 := Lib.hid (And.intro hb3 (B2.out.trans (hb3.mono B2.out.size)))
  clear hb3
  go_wp2_with fail
  refine (H3.out w3 (errOk_below HE.out B3.out.2)).mono ?_
  intro e w4 h4
  obtain ⟨rfl, hb4⟩ := rd_err (by decide) h4
  have B4 := Lib.hid (And.intro (B3.out.1.trans (hb4.mono B3.out.1.size)) (B3.out.2.trans (hb4.mono B3.out.2.size)))
  clear h4 hb4
  go_wp2_with fail
  refine (H4.out w4 (errOk_below HE.out B4.out.2)).mono ?_
  intro e w5 h5
  obtain ⟨rfl, hb5⟩ := rd_err (by decide) h5
  have B5 := Lib.hid (And.intro (B4.out.1.trans (hb5.mono B4.out.1.size)) (B4.out.2.trans (hb5.mono B4.out.2.size)))
  clear h5 hb5
  go_wp2_with fail
  refine (H5.out w5 (errOk_below HE.out B5.out.2)).mono ?_
  intro e w6 h6
  obtain ⟨a6, rfl, hb6⟩ := rd_nil h6
  have B6 := Lib.hid (And.intro (B5.out.1.trans (hb6.mono B5.out.1.size)) (B5.out.2.trans (hb6.mono B5.out.2.size)))
  clear h6 hb6
  have k1 := (B6.out.1.cell (p := ⟨g, 0, none⟩) C.out.2.1).trans C.out.2.2.1
  have k2 := (B6.out.1.cell (p := ⟨gi, 1, none⟩) C.out.1).trans C.out.2.2.2.1
  have k3 := (B6.out.1.cell (p := ⟨gi, 3, none⟩) C.out.1).trans C.out.2.2.2.2
  go_wp2_with fail
  refine (HS.out w6).mono ?_
  rintro e w7 ⟨rfl, hb7⟩
  have B7 := Lib.hid (B6.out.2.trans (hb7.mono B6.out.2.size))
  clear hb7
  go_wp2
  go_ret
  exact boolPost_mk (by rfl) B7.out
end Go.Proofs.YtbnaianmcacdhaaGreatDoor
