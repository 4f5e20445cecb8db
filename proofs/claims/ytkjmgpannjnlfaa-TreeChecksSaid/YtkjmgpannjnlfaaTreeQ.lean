/- The walk of the law TreeChecks: it returns true and leaves what was in memory as it was. -/
import Derived.Test.YtkjmgpannjnlfaaTreeH
namespace Go.Proofs.Ytkjmgpannjnlfaa
open Go.RowKit Go.Proofs.BerM Go.Proofs.BerK

set_option maxHeartbeats 800000 in
set_option maxRecDepth 100000 in
theorem checks_walk (s : ByteArray) (q : Int) (w : World) (hm : s.size ≤ maxLen) :
    Calls Try.prog 3 #[.string s, .int .i64 q] w fun e w' => e = .returned (.bool true) ∧ Below w.heap.size w w' := by
  have HM := Lib.hid hm
  unfold maxLen at hm
  by_cases h : 400 < s.size
  · go_enter Try.func3, Try.ntmps3
    go_wp2_with fail
    refine (awake_any _).mono ?_
    rintro e w1 ⟨rfl, hb1⟩
    go_wp2
    go_ret
    exact ⟨rfl, hb1⟩
  · obtain ⟨e, he⟩ : ∃ e, ck (lv q) s.data.toList = e := ⟨_, rfl⟩
    obtain ⟨d, hd⟩ : ∃ d, dpth s.data.toList = d := ⟨_, rfl⟩
    have H1 := Lib.hid fun w => check_any s q w HM.out e he
    have H2 := Lib.hid fun w => rck_any s q w HM.out e he
    have H3 := Lib.hid fun w => depth_any s w HM.out d hd
    have H4 := Lib.hid fun w => rdepth_any s w HM.out d hd
    clear he hd
    go_enter Try.func3, Try.ntmps3
    go_wp2_with fail
    refine (H1.out _).mono ?_
    rintro en w1 ⟨rfl, hb1⟩
    go_wp2_with fail
    refine (H2.out _).mono ?_
    rintro en w2 ⟨rfl, hb2⟩
    have hb2' := hb1.trans (hb2.mono hb1.size)
    clear hb1 hb2
    go_wp2_with fail
    refine (H3.out _).mono ?_
    rintro en w3 ⟨rfl, hb3⟩
    have hb3' := hb2'.trans (hb3.mono hb2'.size)
    clear hb3 hb2'
    go_wp2_with fail
    refine (H4.out _).mono ?_
    rintro en w4 ⟨rfl, hb4⟩
    have hb4' := hb3'.trans (hb4.mono hb3'.size)
    clear hb4 hb3'
    go_wp2_with fail
    refine (awake_any _).mono ?_
    rintro en w5 ⟨rfl, hb5⟩
    have hb5' := hb4'.trans (hb5.mono hb4'.size)
    clear hb5 hb4'
    go_wp2
    go_ret
    exact ⟨rfl, hb5'⟩
end Go.Proofs.Ytkjmgpannjnlfaa
