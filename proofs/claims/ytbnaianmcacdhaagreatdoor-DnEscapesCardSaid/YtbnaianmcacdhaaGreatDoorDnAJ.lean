/- The law of what is escaped, for all texts. -/
import Derived.Test.YtbnaianmcacdhaaGreatDoorDnAI
namespace Go.Proofs.YtbnaianmcacdhaaGreatDoor
set_option linter.unusedSimpArgs false
set_option linter.unusedVariables false
open Go Go.RowKit Go.Proofs.BerK Go.Proofs.MemK Go.Proofs.UtfK

theorem sl_id (s : ByteArray) : (⟨s.data.toList.toArray⟩ : ByteArray) = s := by cases s; simp
set_option maxHeartbeats 6400000 in
set_option maxRecDepth 100000 in
theorem descapes_any (s : ByteArray) (w : World) (he : ErrOk w) : Calls Tryz.prog 4 #[.string s] w (BoolPost true w) := by
  have hl := len_list s
  have HE := Lib.hid he
  have HW := Lib.hid (fun w' (hb : Below w.heap.size w w') => dawake_any w' (errOk_below he hb))
  by_cases h0 : 256 < s.size
  · have h1 : (256 : Int) < (s.size : Int) := by omega
    clear he hl
    go_enter Tryz.func4, Tryz.ntmps4
    go_wp2_with fail
    refine (HW.out w (Below.refl _ _)).mono ?_
    rintro e w2 ⟨rfl, hb⟩
    have HB := Lib.hid hb
    clear hb
    go_wp2
    go_ret
    exact boolPost_mk rfl HB.out
  have h1 : ¬ (256 : Int) < (s.size : Int) := by omega
  by_cases hz : s.size = 0
  · have hs : s = ⟨#[]⟩ := by
      apply ByteArray.ext
      exact Array.eq_empty_of_size_eq_zero hz
    subst hs
    clear he hl h1 hz h0
    go_enter Tryz.func4, Tryz.ntmps4
    go_wp2_with fail
    refine (HW.out w (Below.refl _ _)).mono ?_
    rintro e w2 ⟨rfl, hb⟩
    have HB := Lib.hid hb
    clear hb
    go_wp2
    go_ret
    exact boolPost_mk rfl HB.out
  have hne : s.data.toList ≠ [] := by intro e; rw [e] at hl; simp at hl; omega
  have hq := str_ne s (by omega)
  have HX := Lib.hid (desc_any s (by omega) w)
  have hel := es_len true s.data.toList
  have hrd := rd_es s.data.toList hne (by omega)
  have hel2 : (esL s.data.toList).length ≤ 768 := by unfold esL; omega
  obtain ⟨E, hE⟩ : ∃ E, esL s.data.toList = E := ⟨_, rfl⟩
  rw [hE] at HX hrd hel2
  obtain ⟨T, hT⟩ : ∃ T, [99, 110, 61] ++ E ++ [44, 100, 99, 61, 120] = T := ⟨_, rfl⟩
  have HR : Hid (∀ w', ErrOk w' → Calls Tryz.prog 13 #[.string ⟨T.toArray⟩] w' (RdPost ([[([99, 110], s.data.toList)], [([100, 99], [120])]], 0) 40 38 w')) := fun w' he' => by
    have h := dread_any ⟨T.toArray⟩ w' he'
    change Calls Tryz.prog _ _ w' (RdPost (rdD T) _ _ w') at h
    rw [← hT, hrd, hT] at h
    exact h
  have n1 : ¬ (9223372036854775807 < 3 + E.length) := by omega
  have n2 : ¬ (9223372036854775807 < 3 + E.length + 5) := by omega
  have hc1 : (⟨#[99, 110, 61]⟩ : ByteArray) ++ ⟨E.toArray⟩ = ⟨(99 :: 110 :: 61 :: E).toArray⟩ := by rw [show (⟨#[99, 110, 61]⟩ : ByteArray) = ⟨[99, 110, 61].toArray⟩ from rfl, cat_l]; rfl
  have hc2 : (⟨(99 :: 110 :: 61 :: E).toArray⟩ : ByteArray) ++ ⟨#[44, 100, 99, 61, 120]⟩ = ⟨T.toArray⟩ := by rw [show (⟨#[44, 100, 99, 61, 120]⟩ : ByteArray) = ⟨[44, 100, 99, 61, 120].toArray⟩ from rfl, cat_l, ← hT]; rfl
  clear he hel hel2 hrd hE hne h0 hl hT
  go_enter Tryz.func4, Tryz.ntmps4
  go_wp2_with fail
  refine HX.out.mono ?_
  rintro e w1 ⟨rfl, hb1⟩
  have B1 := Lib.hid hb1
  clear hb1
  go_wp2_with fail
  refine (HR.out w1 (errOk_below HE.out B1.out)).mono ?_
  intro e w2 h2
  obtain ⟨g, gs, rfl, hd, hb2⟩ := rd_some (by simp) h2
  obtain ⟨gi, l1, l2, c1, c2⟩ := blk_cells hd 0 (by simp)
  obtain ⟨c3, c4⟩ := c2 0 (by simp)
  have k1 : w2.cell? ⟨g, 0, none⟩ = some (.slice (some ⟨gi, 0, none⟩) 1 1) := c1
  have k2 : w2.cell? ⟨gi, 0, none⟩ = some (.string ⟨#[99, 110]⟩) := c3
  have k3 : w2.cell? ⟨gi, 1, none⟩ = some (.string s) := c4.trans (by rw [show (⟨([[([99, 110], s.data.toList)], [([100, 99], [120])]] : List (List Av))[0][0].2.toArray⟩ : ByteArray) = s from sl_id s])
  have B2 := Lib.hid (B1.out.trans (hb2.mono B1.out.size))
  unfold rowV
  clear h2 hd hb2 l1 l2 c1 c2 c3 c4 hc1 hc2
  go_wp2_with fail
  refine (HW.out w2 B2.out).mono ?_
  rintro e w3 ⟨rfl, hb3⟩
  have B3 := Lib.hid (B2.out.trans (hb3.mono B2.out.size))
  clear hb3
  go_wp2
  go_ret
  exact boolPost_mk rfl B3.out
end Go.Proofs.YtbnaianmcacdhaaGreatDoor
