/- The law's own given values come out as said. -/
import Derived.Test.YtlopmppiihhnnaaGreatDoorRuFI
import Derived.Test.YtlopmppiihhnnaaGreatDoorDnAF
namespace Go.Proofs.YtlopmppiihhnnaaGreatDoor
set_option linter.unusedSimpArgs false
set_option linter.unusedVariables false
open Go Go.RowKit Go.Proofs.BerK Go.Proofs.MemK Go.Proofs.UtfK

theorem ru_rd : rdD [67, 78, 61, 97] = ([[([67, 78], [97])]], 0) := by decide +kernel
theorem ru_no : noD [67, 78, 61, 97] = ([99, 110, 61, 97], 0) := by
  rw [noD_ok ru_rd]
  have e : ([[([67, 78], [97])]] : List (List Av)).map nmR = [[([99, 110], [97])]] := by
    simp only [List.map_cons, List.map_nil, nmR, srtR_one]
    decide +kernel
  rw [e]
  decide +kernel
theorem ru_l1 : ruN 5 [67, 78, 61, 97] = ([99, 110, 61, 97], true) := by rw [ruN_5 (by decide), ru_no]; rfl
theorem ru_l2 : ruN 1 [32, 32] = ([], false) := by decide +kernel
theorem ru_l3 : eqP (ruN 1 [65, 32, 32, 98]) (ruN 1 [97, 32, 66]) = 1 := by decide +kernel
theorem ru_l4 : eqP (ruN 2 [65]) (ruN 2 [97]) = 0 := by decide +kernel
theorem ru_l5 : ordP 3 (ruN 3 [57]) (ruN 3 [49, 48]) = 1 := by decide +kernel
theorem ru_l6 (p q : List UInt8 × Bool) : ordP 5 p q = 2 := by simp [ordP]
theorem ru_l7 : subP 1 (ruN 1 [97, 98, 99, 97, 98, 99]) [65] [[99, 97]] [99] = 1 := by decide +kernel
theorem ru_l8 (p : List UInt8 × Bool) : subP 1 p [] [] [] = 2 := sub_undef (.inr (.inl rfl))
theorem ru_l9 : subP 2 (ruN 2 [97, 98]) [97, 98] [] [98] = 0 := by decide +kernel
set_option maxHeartbeats 6400000 in
set_option maxRecDepth 100000 in
theorem ruawake_any (w : World) (he : ErrOk w) (hk : MlOk w) : Calls Tryz.prog 7 #[] w (BoolPost true w) := by
  have H1 : Hid (Calls Tryz.prog 8 #[.int .i64 5, .string ⟨#[67, 78, 61, 97]⟩] w (NbPost ([99, 110, 61, 97], true) w)) := by
    rw [← ru_l1]; exact runorm_any 5 [67, 78, 61, 97] w he
  have H2 : Hid (∀ w', Below w.heap.size w w' → Calls Tryz.prog 8 #[.int .i64 1, .string ⟨#[32, 32]⟩] w' (NbPost ([], false) w')) := fun w' hb => by
    rw [← ru_l2]; exact runorm_any 1 [32, 32] w' (errOk_below he hb)
  have H3 : Hid (∀ w', Below w.heap.size w w' → Calls Tryz.prog 10 #[.int .i64 1, .string ⟨#[65, 32, 32, 98]⟩, .string ⟨#[97, 32, 66]⟩] w' (IPost 1 w')) := fun w' hb => by
    have := ruequal_any 1 [65, 32, 32, 98] [97, 32, 66] w' (errOk_below he hb)
    rw [ru_l3] at this; exact this
  have H4 : Hid (∀ w', Below w.heap.size w w' → Calls Tryz.prog 10 #[.int .i64 2, .string ⟨#[65]⟩, .string ⟨#[97]⟩] w' (IPost 0 w')) := fun w' hb => by
    have := ruequal_any 2 [65] [97] w' (errOk_below he hb)
    rw [ru_l4] at this; exact this
  have H5 : Hid (∀ w', Below w.heap.size w w' → Calls Tryz.prog 12 #[.int .i64 3, .string ⟨#[57]⟩, .string ⟨#[49, 48]⟩] w' (IPost 1 w')) := fun w' hb => by
    have := ruorder_any 3 [57] [49, 48] w' (errOk_below he hb)
    rw [ru_l5] at this; exact this
  have H6 : Hid (∀ w', Below w.heap.size w w' → Calls Tryz.prog 12 #[.int .i64 5, .string ⟨#[97, 61, 98]⟩, .string ⟨#[97, 61, 99]⟩] w' (IPost 2 w')) := fun w' hb => by
    have := ruorder_any 5 [97, 61, 98] [97, 61, 99] w' (errOk_below he hb)
    rw [ru_l6] at this; exact this
  have H7 : Hid (∀ w', Below w.heap.size w w' → Calls Tryz.prog 14 #[.int .i64 1, .string ⟨#[97, 98, 99, 97, 98, 99]⟩, .agg #[.string ⟨#[65]⟩, .slice (some ⟨w'.heap.size, 0, none⟩) 1 1, .string ⟨#[99]⟩]] (w'.alloc (.cells #[.string ⟨#[99, 97]⟩] 9)) (IPost 1 (w'.alloc (.cells #[.string ⟨#[99, 97]⟩] 9)))) := fun w' hb => by
    have hb2 : Below w.heap.size w (w'.alloc (.cells #[.string ⟨#[99, 97]⟩] 9)) := hb.alloc hb.size _
    have := rusubs_any 1 [97, 98, 99, 97, 98, 99] [65] [99] [[99, 97]] (some ⟨w'.heap.size, 0, none⟩) 1 (w'.alloc (.cells #[.string ⟨#[99, 97]⟩] 9)) (by decide) (txR_new w' [[99, 97]] 9) (errOk_below he hb2) (mlOk_below hk hb2)
    rw [ru_l7] at this; exact this
  have H8 : Hid (∀ w', Below w.heap.size w w' → Calls Tryz.prog 14 #[.int .i64 1, .string ⟨#[97, 98, 99]⟩, .agg #[.string ⟨#[]⟩, .slice none 0 0, .string ⟨#[]⟩]] w' (IPost 2 w')) := fun w' hb => by
    have := rusubs_any 1 [97, 98, 99] [] [] [] none 0 w' (by decide) (txR_nil _ _ _) (errOk_below he hb) (mlOk_below hk hb)
    rw [ru_l8] at this; exact this
  have H9 : Hid (∀ w', Below w.heap.size w w' → Calls Tryz.prog 14 #[.int .i64 2, .string ⟨#[97, 98]⟩, .agg #[.string ⟨#[97, 98]⟩, .slice none 0 0, .string ⟨#[98]⟩]] w' (IPost 0 w')) := fun w' hb => by
    have := rusubs_any 2 [97, 98] [97, 98] [98] [] none 0 w' (by decide) (txR_nil _ _ _) (errOk_below he hb) (mlOk_below hk hb)
    rw [ru_l9] at this; exact this
  clear he hk
  go_enter Tryz.func7, Tryz.ntmps7
  go_wp2_with fail
  refine H1.out.mono ?_
  rintro e w1 ⟨rfl, hb⟩
  have B1 := Lib.hid hb
  clear hb
  go_wp2_with fail
  refine (H2.out w1 B1.out).mono ?_
  rintro e w2 ⟨rfl, hb⟩
  have B2 := Lib.hid (B1.out.trans (hb.mono B1.out.size))
  clear hb
  go_wp2_with fail
  refine (H3.out w2 B2.out).mono ?_
  rintro e w3 ⟨rfl, hb⟩
  have B3 := Lib.hid (B2.out.trans (hb.mono B2.out.size))
  clear hb
  go_wp2_with fail
  refine (H4.out w3 B3.out).mono ?_
  rintro e w4 ⟨rfl, hb⟩
  have B4 := Lib.hid (B3.out.trans (hb.mono B3.out.size))
  clear hb
  go_wp2_with fail
  refine (H5.out w4 B4.out).mono ?_
  rintro e w5 ⟨rfl, hb⟩
  have B5 := Lib.hid (B4.out.trans (hb.mono B4.out.size))
  clear hb
  go_wp2_with fail
  refine (H6.out w5 B5.out).mono ?_
  rintro e w6 ⟨rfl, hb⟩
  have B6 := Lib.hid (B5.out.trans (hb.mono B5.out.size))
  clear hb
  go_wp2_with fail
  refine (H7.out w6 B6.out).mono ?_
  rintro e w7 ⟨rfl, hb⟩
  have B7 := Lib.hid ((B6.out.alloc B6.out.size _).trans (hb.mono (by have := B6.out.size; simp; omega)))
  clear hb
  go_wp2_with fail
  refine (H8.out w7 B7.out).mono ?_
  rintro e w8 ⟨rfl, hb⟩
  have B8 := Lib.hid (B7.out.trans (hb.mono B7.out.size))
  clear hb
  go_wp2_with fail
  refine (H9.out w8 B8.out).mono ?_
  rintro e w9 ⟨rfl, hb⟩
  have B9 := Lib.hid (B8.out.trans (hb.mono B8.out.size))
  clear hb
  go_wp2
  go_ret
  exact boolPost_mk (by rfl) B9.out
end Go.Proofs.YtlopmppiihhnnaaGreatDoor
