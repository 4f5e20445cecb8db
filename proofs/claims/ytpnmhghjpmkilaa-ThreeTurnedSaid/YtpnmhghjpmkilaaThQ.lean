/- The walks of the laws of truths of three. -/
import Derived.Test.YtpnmhghjpmkilaaThB
namespace Go.Proofs.Ytpnmhghjpmkilaa
set_option linter.unusedSimpArgs false
set_option linter.unusedVariables false
open Go Go.RowKit Go.Proofs.BerK Go.Proofs.MemK Go.Proofs.ThM

set_option maxHeartbeats 6400000 in
set_option maxRecDepth 100000 in
theorem tawake_any (w : World) : Calls Try.prog 5 #[] w (RetB true w) := by
  have H1 : Hid (∀ w', Calls Try.prog 8 #[.slice none 0 0] w' (RetI 1 w')) := fun w' => tand_any [] _ w' (intR_nil _ _ _) (by decide)
  have H2 : Hid (∀ w' : World, Calls Try.prog 10 #[.slice (some ⟨w'.heap.size, 0, none⟩) 2 2] (w'.alloc (.cells #[.int .i64 0, .int .i64 2] 3)) (RetI 2 (w'.alloc (.cells #[.int .i64 0, .int .i64 2] 3)))) := fun w' => tor_any [0, 2] _ _ (intR_new w' [0, 2] 3) (by decide)
  have H3 : Hid (∀ w' : World, Calls Try.prog 8 #[.slice (some ⟨w'.heap.size, 0, none⟩) 2 2] (w'.alloc (.cells #[.int .i64 2, .int .i64 0] 3)) (RetI 0 (w'.alloc (.cells #[.int .i64 2, .int .i64 0] 3)))) := fun w' => tand_any [2, 0] _ _ (intR_new w' [2, 0] 3) (by decide)
  have H4 : Hid (∀ w' : World, Calls Try.prog 10 #[.slice (some ⟨w'.heap.size, 0, none⟩) 2 2] (w'.alloc (.cells #[.int .i64 2, .int .i64 1] 3)) (RetI 1 (w'.alloc (.cells #[.int .i64 2, .int .i64 1] 3)))) := fun w' => tor_any [2, 1] _ _ (intR_new w' [2, 1] 3) (by decide)
  have H5 : Hid (∀ w', Calls Try.prog 6 #[.int .i64 2] w' fun e w'' => e = .returned (.int .i64 2) ∧ w'' = w') := fun w' => tnot_any 2 w'
  have H6 : Hid (∀ w', Calls Try.prog 6 #[.int .i64 0] w' fun e w'' => e = .returned (.int .i64 1) ∧ w'' = w') := fun w' => tnot_any 0 w'
  have H7 : Hid (∀ w', Calls Try.prog 12 #[.slice none 0 0] w' (RetI 2 w')) := fun w' => tleast_any [] _ w' (intR_nil _ _ _) (by decide)
  have H8 : Hid (∀ w' : World, Calls Try.prog 12 #[.slice (some ⟨w'.heap.size, 0, none⟩) 2 2] (w'.alloc (.cells #[.int .i64 1, .int .i64 2] 3)) (RetI 2 (w'.alloc (.cells #[.int .i64 1, .int .i64 2] 3)))) := fun w' => tleast_any [1, 2] _ _ (intR_new w' [1, 2] 3) (by decide)
  have H9 : Hid (∀ w' : World, Calls Try.prog 8 #[.slice (some ⟨w'.heap.size, 0, none⟩) 2 2] (w'.alloc (.cells #[.int .i64 1, .int .i64 7] 3)) (RetI 2 (w'.alloc (.cells #[.int .i64 1, .int .i64 7] 3)))) := fun w' => tand_any [1, 7] _ _ (intR_new w' [1, 7] 3) (by decide)
  have B0 := Lib.hid (Below.refl w.heap.size w)
  have E0 := Lib.hid (Nat.le_refl w.heap.size)
  go_enter Try.func5, Try.ntmps5
  go_wp2_with fail
  refine (H1.out _).mono ?_
  rintro e v1 ⟨rfl, hb⟩
  have B1 := Lib.hid (B0.out.trans (hb.mono B0.out.size))
  clear hb
  go_wp2_with fail
  refine (H2.out _).mono ?_
  rintro e v2 ⟨rfl, hb⟩
  have B2 := Lib.hid ((B1.out.alloc B1.out.size _).trans (hb.mono (by have := B1.out.size; simp; omega)))
  clear hb
  go_wp2_with fail
  refine (H3.out _).mono ?_
  rintro e v3 ⟨rfl, hb⟩
  have B3 := Lib.hid ((B2.out.alloc B2.out.size _).trans (hb.mono (by have := B2.out.size; simp; omega)))
  clear hb
  go_wp2_with fail
  refine (H4.out _).mono ?_
  rintro e v4 ⟨rfl, hb⟩
  have B4 := Lib.hid ((B3.out.alloc B3.out.size _).trans (hb.mono (by have := B3.out.size; simp; omega)))
  clear hb
  go_wp2_with fail
  refine (H5.out _).mono ?_
  rintro e w5' ⟨rfl, rfl⟩
  go_wp2_with fail
  refine (H6.out _).mono ?_
  rintro e w6' ⟨rfl, rfl⟩
  go_wp2_with fail
  refine (H7.out _).mono ?_
  rintro e v7 ⟨rfl, hb⟩
  have B7 := Lib.hid (B4.out.trans (hb.mono B4.out.size))
  clear hb
  go_wp2_with fail
  refine (H8.out _).mono ?_
  rintro e v8 ⟨rfl, hb⟩
  have B8 := Lib.hid ((B7.out.alloc B7.out.size _).trans (hb.mono (by have := B7.out.size; simp; omega)))
  clear hb
  go_wp2_with fail
  refine (H9.out _).mono ?_
  rintro e v9 ⟨rfl, hb⟩
  have B9 := Lib.hid ((B8.out.alloc B8.out.size _).trans (hb.mono (by have := B8.out.size; simp; omega)))
  clear hb
  go_wp2
  go_ret
  exact retB_mk rfl B9.out
set_option maxHeartbeats 400000 in
theorem ttells_asleep (l : List Int) (a : Option Addr) (c : Nat) (w : World) (h1 : 40 < l.length) (hm : l.length ≤ maxLen) : Calls Try.prog 3 #[.slice a l.length c] w fun e w' => e = .returned (.bool true) ∧ Below w.heap.size w w' := by
  unfold maxLen at hm
  go_enter Try.func3, Try.ntmps3
  go_wp2_with fail
  refine (tawake_any _).mono ?_
  rintro e w1 ⟨rfl, hb⟩
  go_wp2
  go_ret
  exact ⟨rfl, hb⟩
set_option maxHeartbeats 3200000 in
set_option maxRecDepth 100000 in
theorem ttells_core (l : List Int) (a : Option Addr) (c : Nat) (w : World) (h : IntR w (.slice a l.length c) l) (h1 : l.length ≤ 40) : Calls Try.prog 3 #[.slice a l.length c] w fun e w' => e = .returned (.bool true) ∧ Below w.heap.size w w' := by
  have HA := Lib.hid (fun W (hW : Below w.heap.size w W) => tand_any l _ W (intR_below h hW) (by omega))
  have HB := Lib.hid (fun W (hW : Below w.heap.size w W) => rtand_any l _ W (intR_below h hW) (by omega))
  have HC := Lib.hid (fun W (hW : Below w.heap.size w W) => tor_any l _ W (intR_below h hW) (by omega))
  have HD := Lib.hid (fun W (hW : Below w.heap.size w W) => rtor_any l _ W (intR_below h hW) (by omega))
  have HE := Lib.hid (fun W (hW : Below w.heap.size w W) => tleast_any l _ W (intR_below h hW) (by omega))
  have HF := Lib.hid (fun W (hW : Below w.heap.size w W) => rtleast_any l _ W (intR_below h hW) (by omega))
  obtain ⟨a', c', hv, hcells⟩ := h
  injection hv with hv1 hv2 hv3
  subst hv1 hv3
  clear hv2
  have HM := Lib.hid hcells
  obtain ⟨n, hn⟩ : ∃ n, l.length = n := ⟨_, rfl⟩
  have HL := Lib.hid hn
  obtain ⟨x1, hx1⟩ : ∃ x, andT l = x := ⟨_, rfl⟩
  obtain ⟨x2, hx2⟩ : ∃ x, orT l = x := ⟨_, rfl⟩
  obtain ⟨x3, hx3⟩ : ∃ x, leastT l = x := ⟨_, rfl⟩
  rw [hn] at h1 HA HB HC HD HE HF ⊢
  rw [hx1] at HA HB
  rw [hx2] at HC HD
  rw [hx3] at HE HF
  clear hcells hn hx1 hx2 hx3
  go_enter Try.func3, Try.ntmps3
  go_wp2
  go_loopw [3] (fun v wr => ∃ k : Nat, k ≤ n ∧ v = .int .i64 (k : Nat) ∧ Below w.heap.size w wr) (fun v _ => n - (intOf v).toNat)
  case atStart => exact ⟨0, by omega, rfl, Below.refl _ _⟩
  case round =>
    obtain ⟨k, hk, rfl, hb⟩ := hrel
    have hsr := hb.size
    by_cases hlt : k < n
    · have hkl : (k : Int) < (n : Int) := by omega
      have hkm : k < l.length := by rw [HL.out]; exact hlt
      obtain ⟨g, o, rfl, hg, e0w⟩ := HM.out k hkm
      have e0 := (hb.cell (p := ⟨g, _, none⟩) hg).trans e0w
      obtain ⟨nm, hnm⟩ : ∃ x, l[k] = x := ⟨_, rfl⟩
      rw [hnm] at e0
      have HN := Lib.hid (tnot_any nm)
      have HR := Lib.hid (rtnot_any nm)
      obtain ⟨y, hy⟩ : ∃ y, notT nm = y := ⟨_, rfl⟩
      rw [hy] at HN HR
      have HBl := Lib.hid hb
      clear hb e0w hnm hy
      have hi0 : (0 : Int) ≤ k := by omega
      go_wp2_with fail
      go_quiet (first | (go_at_call 6; exact Calls.quiet_of_same (HN.out _)) | (go_at_call 7; exact Calls.quiet_of_same (HR.out _)))
      go_wp2
      exact ⟨⟨k + 1, by omega, by go_num, below_dn HBl.out _⟩, by simp [intOf]; omega⟩
    · obtain rfl : k = n := by omega
      have B0 := Lib.hid hb
      clear hb

      go_wp2_with fail
      refine (HA.out _ B0.out).mono ?_
      rintro en w1 ⟨rfl, hb⟩
      have B1 := Lib.hid (B0.out.trans (hb.mono B0.out.size))
      clear hb
      go_wp2_with fail
      refine (HB.out _ B1.out).mono ?_
      rintro en w2 ⟨rfl, rfl⟩
      go_wp2_with fail
      refine (HC.out _ B1.out).mono ?_
      rintro en w3 ⟨rfl, hb⟩
      have B3 := Lib.hid (B1.out.trans (hb.mono B1.out.size))
      clear hb
      go_wp2_with fail
      refine (HD.out _ B3.out).mono ?_
      rintro en w4 ⟨rfl, rfl⟩
      go_wp2_with fail
      refine (HE.out _ B3.out).mono ?_
      rintro en w5 ⟨rfl, hb⟩
      have B5 := Lib.hid (B3.out.trans (hb.mono B3.out.size))
      clear hb
      go_wp2_with fail
      refine (HF.out _ B5.out).mono ?_
      rintro en w6 ⟨rfl, rfl⟩
      go_wp2_with fail
      refine (tawake_any _).mono ?_
      rintro en w9 ⟨rfl, hb⟩
      have B9 := Lib.hid (B5.out.trans (hb.mono B5.out.size))
      clear hb
      go_wp2
      go_ret
      exact ⟨rfl, B9.out⟩
theorem ttells_walk (l : List Int) (a : Option Addr) (c : Nat) (w : World) (h : IntR w (.slice a l.length c) l) (hm : l.length ≤ maxLen) : Calls Try.prog 3 #[.slice a l.length c] w fun e w' => e = .returned (.bool true) ∧ Below w.heap.size w w' := by
  by_cases h1 : 40 < l.length
  · exact ttells_asleep l a c w h1 hm
  · exact ttells_core l a c w h (by omega)
end Go.Proofs.Ytpnmhghjpmkilaa
