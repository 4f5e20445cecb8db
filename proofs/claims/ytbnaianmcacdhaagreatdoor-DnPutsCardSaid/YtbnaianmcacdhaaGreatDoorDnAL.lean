/- The law of what is put, for all names and texts. -/
import Derived.Test.YtbnaianmcacdhaaGreatDoorDnAG
import Derived.Test.YtbnaianmcacdhaaGreatDoorDnAH
import Derived.Test.YtbnaianmcacdhaaGreatDoorDnS
import Derived.Test.YtbnaianmcacdhaaGreatDoorDnE
namespace Go.Proofs.YtbnaianmcacdhaaGreatDoor
set_option linter.unusedSimpArgs false
set_option linter.unusedVariables false
open Go Go.RowKit Go.Proofs.BerK Go.Proofs.MemK Go.Proofs.UtfK

set_option maxHeartbeats 6400000 in
set_option maxRecDepth 100000 in
theorem dputs_any (v : Value) (d : List (List Av)) (s : ByteArray) (w : World) (h : DnAt w v d) (he : ErrOk w) : Calls Tryz.prog 3 #[v, .string s] w (BoolPost true w) := by
  have HE := Lib.hid he
  have HW := Lib.hid (fun w' (hb : Below w.heap.size w w') => dawake_any w' (errOk_below he hb))
  have HF := Lib.hid (dfew_any v d w h)
  have HP := Lib.hid (fun w' (hb : Below w.heap.size w w') => dput_any v d w' (dnAt_below h hb))
  have HC := Lib.hid (fun w' (hb : Below w.heap.size w w') => dcheck_any v d w' (dnAt_below h hb))
  have HP2 := Lib.hid (fun (hs : ∀ r ∈ d, ∀ p ∈ r, p.1.length ≤ 140737488355328) w' (hb : Below w.heap.size w w') => rput6_any v d hs w' (dnAt_below h hb))
  have HC2 := Lib.hid (fun (hs : ∀ r ∈ d, ∀ p ∈ r, p.1.length ≤ 140737488355328) w' (hb : Below w.heap.size w w') => rcheck6_any v d hs w' (dnAt_below h hb))
  have HQ := Lib.hid (fun h => fewD_facts (d := d) h)
  obtain ⟨a, c, hv, _⟩ := h
  subst hv
  obtain ⟨b, hb⟩ : ∃ b, fewD d = b := ⟨_, rfl⟩
  rw [hb] at HF HQ
  clear he hb
  cases b with
  | false =>
    go_enter Tryz.func3, Tryz.ntmps3
    go_wp2_with fail
    refine HF.out.mono ?_
    rintro e w1 ⟨rfl, hb1⟩
    have B1 := Lib.hid hb1
    clear hb1
    go_wp2_with fail
    refine (HW.out w1 B1.out).mono ?_
    rintro e w2 ⟨rfl, hb2⟩
    have B2 := Lib.hid (B1.out.trans (hb2.mono B1.out.size))
    clear hb2
    go_wp2
    go_ret
    exact boolPost_mk rfl B2.out
  | true =>
    by_cases h0 : 300 < s.size
    · have h1 : (300 : Int) < (s.size : Int) := by omega
      go_enter Tryz.func3, Tryz.ntmps3
      go_wp2_with fail
      refine HF.out.mono ?_
      rintro e w1 ⟨rfl, hb1⟩
      have B1 := Lib.hid hb1
      clear hb1
      go_wp2_with fail
      refine (HW.out w1 B1.out).mono ?_
      rintro e w2 ⟨rfl, hb2⟩
      have B2 := Lib.hid (B1.out.trans (hb2.mono B1.out.size))
      clear hb2
      go_wp2
      go_ret
      exact boolPost_mk rfl B2.out
    have h1 : ¬ (300 : Int) < (s.size : Int) := by omega
    have hs : ∀ r ∈ d, ∀ p ∈ r, p.1.length ≤ 140737488355328 := fun r hr p hp => by have := ((HQ.out rfl).2 r hr).2 p hp; omega
    have HP3 := Lib.hid (HP2.out hs)
    have HC3 := Lib.hid (HC2.out hs)
    have HS := Lib.hid (fun w' => desc_any s (by omega) w')
    have HS2 := Lib.hid (fun w' => resc_any s (by omega) w')
    obtain ⟨pq, hpq⟩ : ∃ pq, puD d = pq := ⟨_, rfl⟩
    obtain ⟨ck, hck⟩ : ∃ ck, ckD d = ck := ⟨_, rfl⟩
    obtain ⟨E, hE⟩ : ∃ E, esL s.data.toList = E := ⟨_, rfl⟩
    rw [hpq] at HP HP3
    rw [hck] at HC HC3
    rw [hE] at HS HS2
    clear hs hpq hck hE h0 HP2 HC2 HQ
    obtain ⟨X, m⟩ := pq
    go_enter Tryz.func3, Tryz.ntmps3
    go_wp2_with fail
    refine HF.out.mono ?_
    rintro e w1 ⟨rfl, hb1⟩
    have B1 := Lib.hid hb1
    clear hb1
    go_wp2_with fail
    refine (HP.out w1 B1.out).mono ?_
    rintro e w2 ⟨rfl, hb2⟩
    have B2 := Lib.hid (B1.out.trans (hb2.mono B1.out.size))
    clear hb2
    go_wp2_with fail
    refine (HP3.out w2 B2.out).mono ?_
    rintro e w3 ⟨rfl, hb3⟩
    have B3 := Lib.hid (B2.out.trans (hb3.mono B2.out.size))
    clear hb3
    go_wp2_with fail
    refine (HC.out w3 B3.out).mono ?_
    rintro e w4 ⟨rfl, hb4⟩
    have B4 := Lib.hid (B3.out.trans (hb4.mono B3.out.size))
    clear hb4
    go_wp2_with fail
    refine (HC3.out w4 B4.out).mono ?_
    rintro e w5 ⟨rfl, hb5⟩
    have B5 := Lib.hid (B4.out.trans (hb5.mono B4.out.size))
    clear hb5
    go_wp2_with fail
    refine (HS.out w5).mono ?_
    rintro e w6 ⟨rfl, hb6⟩
    have B6 := Lib.hid (B5.out.trans (hb6.mono B5.out.size))
    clear hb6
    go_wp2_with fail
    refine (HS2.out w6).mono ?_
    rintro e w7 ⟨rfl, hb7⟩
    have B7 := Lib.hid (B6.out.trans (hb7.mono B6.out.size))
    clear hb7
    go_wp2_with fail
    refine (HW.out w7 B7.out).mono ?_
    rintro e w8 ⟨rfl, hb8⟩
    have B8 := Lib.hid (B7.out.trans (hb8.mono B7.out.size))
    clear hb8
    go_wp2
    go_ret
    exact boolPost_mk rfl B8.out
end Go.Proofs.YtbnaianmcacdhaaGreatDoor
