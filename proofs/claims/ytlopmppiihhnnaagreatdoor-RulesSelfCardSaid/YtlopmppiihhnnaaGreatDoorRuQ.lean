/- The law on a value's own parts, for every text and number. -/
import Derived.Test.YtlopmppiihhnnaaGreatDoorRuJ
namespace Go.Proofs.YtlopmppiihhnnaaGreatDoor
set_option linter.unusedSimpArgs false
set_option linter.unusedVariables false
open Go Go.RowKit Go.Proofs.BerK Go.Proofs.MemK Go.Proofs.UtfK

theorem ext_l (l : List UInt8) (i j : Nat) : (⟨l.toArray⟩ : ByteArray).extract i j = ⟨((l.drop i).take (j - i)).toArray⟩ := by
  rw [← mk_list ((⟨l.toArray⟩ : ByteArray).extract i j), Lib.extract_data]
set_option maxHeartbeats 6400000 in
set_option maxRecDepth 100000 in
theorem ruself_any (s : List UInt8) (n : Nat) (hn : n < 256) (w : World) (he : ErrOk w) (hk : MlOk w) : Calls Tryz.prog 5 #[.string ⟨s.toArray⟩, .int .u8 (n : Nat)] w (BoolPost true w) := by
  have HN := Lib.hid (runorm_any 1 s w he)
  have HW := Lib.hid (fun w' (hb : Below w.heap.size w w') => ruawake_any w' (errOk_below he hb) (mlOk_below hk hb))
  obtain ⟨p, hp⟩ : ∃ p, ruN 1 s = p := ⟨_, rfl⟩
  rw [hp] at HN
  obtain ⟨t, ok⟩ := p
  by_cases hgo : ok = true ∧ s.length ≤ 200
  · obtain ⟨rfl, hs⟩ := hgo
    have q1 : ¬ (200 : Int) < (s.length : Int) := by omega
    have hp2 := hp
    rw [ruN_1 (by omega)] at hp2
    injection hp2 with ht hne
    have htl : t.length ≤ 200 := by rw [← ht]; exact Nat.le_trans (foldL_length s) hs
    have htn : t ≠ [] := by
      intro e
      rw [ht, e] at hne
      cases hne
    have HS1 := Lib.hid (fun k w' (hb : Below w.heap.size w w') => (by
      have := rusubs_any 1 s (t.take k) (t.drop k) [] none 0 w' (by decide) (txR_nil _ _ _) (errOk_below he hb) (mlOk_below hk hb)
      rw [hp, self_ends ht.symm htn k] at this
      exact this : Calls Tryz.prog 14 #[.int .i64 1, .string ⟨s.toArray⟩, .agg #[.string ⟨(t.take k).toArray⟩, .slice none 0 0, .string ⟨(t.drop k).toArray⟩]] w' (IPost 1 w')))
    have HS2 := Lib.hid (fun w' (hb : Below w.heap.size w w') => (by
      have hb2 : Below w.heap.size w (w'.alloc (.cells #[.string ⟨t.toArray⟩] 9)) := hb.alloc hb.size _
      have := rusubs_any 1 s [] [] [t] (some ⟨w'.heap.size, 0, none⟩) 1 (w'.alloc (.cells #[.string ⟨t.toArray⟩] 9)) (by simp) (txR_new w' [t] 9) (errOk_below he hb2) (mlOk_below hk hb2)
      rw [hp, self_mid ht.symm htn] at this
      exact this : Calls Tryz.prog 14 #[.int .i64 1, .string ⟨s.toArray⟩, .agg #[.string ⟨#[]⟩, .slice (some ⟨w'.heap.size, 0, none⟩) 1 1, .string ⟨#[]⟩]] (w'.alloc (.cells #[.string ⟨t.toArray⟩] 9)) (IPost 1 (w'.alloc (.cells #[.string ⟨t.toArray⟩] 9)))))
    have HS3 := Lib.hid (fun w' (hb : Below w.heap.size w w') => (by
      have := rusubs_any 1 s (t ++ [120]) [] [] none 0 w' (by decide) (txR_nil _ _ _) (errOk_below he hb) (mlOk_below hk hb)
      rw [hp, self_more ht.symm] at this
      exact this : Calls Tryz.prog 14 #[.int .i64 1, .string ⟨s.toArray⟩, .agg #[.string ⟨(t ++ [120]).toArray⟩, .slice none 0 0, .string ⟨#[]⟩]] w' (IPost 0 w')))
    obtain ⟨k, hkk⟩ : ∃ k, n % (t.length + 1) = k := ⟨_, rfl⟩
    have hk1 : k ≤ t.length := by rw [← hkk]; have := Nat.mod_lt n (show 0 < t.length + 1 by omega); omega
    have hk2 : (k : Int) ≤ (t.length : Int) := by omega
    have hk3 : (0 : Int) ≤ (k : Int) := by omega
    have hsl1 : (⟨t.toArray⟩ : ByteArray).extract 0 k = ⟨(t.take k).toArray⟩ := by rw [ext_l]; simp
    have hsl2 : (⟨t.toArray⟩ : ByteArray).extract k t.length = ⟨(t.drop k).toArray⟩ := by
      rw [ext_l, List.take_of_length_le (by rw [List.length_drop]; exact Nat.le_refl _)]
    have HS1 := Lib.hid (HS1.out k)
    rw [← hsl1, ← hsl2] at HS1
    clear hsl1 hsl2
    have hmod : Int.tmod (n : Int) ((t.length : Int) + 1) = (k : Int) := by
      rw [Int.tmod_eq_emod_of_nonneg (by omega), ← hkk]; rfl
    clear hp he hk ht hne htn hkk
    go_enter Tryz.func5, Tryz.ntmps5
    go_wp2_with fail
    refine HN.out.mono ?_
    rintro e w1 ⟨rfl, hb⟩
    have B1 := Lib.hid hb
    clear hb
    go_wp2_with fail
    go_region_held3 (fun _ => True) (exact trivial)
      (first | (go_at_call 14; (with_reducible refine (HS1.out _ B1.out.drew).mono ?_); rintro en w5 ⟨rfl, hb5⟩; have B5 := Lib.hid (B1.out.drew.trans (hb5.mono B1.out.drew.size)); clear hb5) | (go_at_call 14; (with_reducible refine (HS2.out _ B5.out).mono ?_); rintro en w6 ⟨rfl, hb6⟩; have B6 := Lib.hid ((B5.out.alloc B5.out.size _).trans (hb6.mono (by have := B5.out.size; simp; omega))); clear hb6))
    have hl1 : ¬ (9223372036854775807 < t.length + 1) := by omega
    go_wp2_with fail
    refine (HS3.out _ B6.out).mono ?_
    rintro e w7 ⟨rfl, hb7⟩
    have B7 := Lib.hid (B6.out.trans (hb7.mono B6.out.size))
    clear hb7
    go_wp2_with fail
    refine (HW.out _ B7.out).mono ?_
    rintro e w8 ⟨rfl, hb8⟩
    have B8 := Lib.hid (B7.out.trans (hb8.mono B7.out.size))
    clear hb8
    go_wp2
    go_ret
    exact boolPost_mk rfl B8.out
  · have hw : ok = false ∨ (ok = true ∧ (200 : Int) < (s.length : Int)) := by
      cases ok
      · exact .inl rfl
      · refine .inr ⟨rfl, ?_⟩
        have : ¬ s.length ≤ 200 := fun h => hgo ⟨rfl, h⟩
        omega
    clear hp he hk hgo
    rcases hw with rfl | ⟨rfl, q1⟩
    all_goals
      go_enter Tryz.func5, Tryz.ntmps5
      go_wp2_with fail
      refine HN.out.mono ?_
      rintro e w1 ⟨rfl, hb⟩
      have B1 := Lib.hid hb
      clear hb
      go_wp2_with fail
      refine (HW.out w1 B1.out).mono ?_
      rintro e w2 ⟨rfl, hb⟩
      have B2 := Lib.hid (B1.out.trans (hb.mono B1.out.size))
      clear hb
      go_wp2
      go_ret
      exact boolPost_mk rfl B2.out
theorem ruself_walk (s : ByteArray) (n : Nat) (hn : n < 256) (w : World) (he : ErrOk w) (hk : MlOk w) : Calls Tryz.prog 5 #[.string s, .int .u8 (n : Nat)] w (BoolPost true w) := by
  have := ruself_any s.data.toList n hn w he hk
  rw [mk_list] at this
  exact this
end Go.Proofs.YtlopmppiihhnnaaGreatDoor
