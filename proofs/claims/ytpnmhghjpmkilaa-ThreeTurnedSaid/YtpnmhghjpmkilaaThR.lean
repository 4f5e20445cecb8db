/- The walk of the law of turned truths. -/
import Derived.Test.YtpnmhghjpmkilaaThQ
namespace Go.Proofs.Ytpnmhghjpmkilaa
set_option linter.unusedSimpArgs false
set_option linter.unusedVariables false
open Go Go.RowKit Go.Proofs.BerK Go.Proofs.MemK Go.Proofs.ThM

set_option maxHeartbeats 400000 in
theorem tturn_asleep (l m : List Int) (a b : Option Addr) (c d : Nat) (w : World) (h1 : 30 < l.length ∨ 30 < m.length) (hm : l.length ≤ maxLen) (hm2 : m.length ≤ maxLen) : Calls Try.prog 4 #[.slice a l.length c, .slice b m.length d] w fun e w' => e = .returned (.bool true) ∧ Below w.heap.size w w' := by
  unfold maxLen at hm hm2
  by_cases h2 : 30 < l.length
  · clear h1
    go_enter Try.func4, Try.ntmps4
    go_wp2_with fail
    refine (tawake_any _).mono ?_
    rintro e w1 ⟨rfl, hb⟩
    go_wp2
    go_ret
    exact ⟨rfl, hb⟩
  · have h3 : 30 < m.length := by omega
    clear h1
    go_enter Try.func4, Try.ntmps4
    go_wp2_with fail
    refine (tawake_any _).mono ?_
    rintro e w1 ⟨rfl, hb⟩
    go_wp2
    go_ret
    exact ⟨rfl, hb⟩
theorem Try.info3 : (Try.prog.info? 3).map (fun i => (i.zero, i.size, i.bytes)) = some (some (.int .i64 0), 1, 8) := by kernel_rfl
theorem zc_take (N : List Int) (k : Nat) (h : k < N.length) : zc (N.take (k + 1)) = zc (N.take k) ++ [.int .i64 N[k]] := by
  rw [List.take_succ_eq_append_getElem h]
  simp only [zc, List.map_append, List.map_cons, List.map_nil]
set_option maxHeartbeats 6400000 in
set_option maxRecDepth 100000 in
theorem tturn_core (l m : List Int) (a b : Option Addr) (c d : Nat) (w : World) (h : IntR w (.slice a l.length c) l) (hmm : IntR w (.slice b m.length d) m) (h1 : l.length ≤ 30) (h2 : m.length ≤ 30) (hc : l.length ≤ c) (hnil : a = none → c = 0) (hcm : c ≤ maxLen) :
    Calls Try.prog 4 #[.slice a l.length c, .slice b m.length d] w fun e w' => e = .returned (.bool true) ∧ Below w.heap.size w w' := by
  unfold maxLen at hcm
  obtain ⟨x1, hx1⟩ : ∃ x, andT l = x := ⟨_, rfl⟩
  obtain ⟨x2, hx2⟩ : ∃ x, orT l = x := ⟨_, rfl⟩
  obtain ⟨y1, hy1⟩ : ∃ x, andT m = x := ⟨_, rfl⟩
  obtain ⟨y2, hy2⟩ : ∃ x, orT m = x := ⟨_, rfl⟩
  obtain ⟨N, hN⟩ : ∃ N, l.map notT = N := ⟨_, rfl⟩
  obtain ⟨z1, hz1⟩ : ∃ x, orT N = x := ⟨_, rfl⟩
  obtain ⟨z2, hz2⟩ : ∃ x, andT N = x := ⟨_, rfl⟩
  obtain ⟨a1, ha1⟩ : ∃ x, andT (l ++ m) = x := ⟨_, rfl⟩
  obtain ⟨a2, ha2⟩ : ∃ x, orT (l ++ m) = x := ⟨_, rfl⟩
  have n1 : notT x1 = z1 := by rw [← hx1, ← hz1, ← hN, ThM.not_and]
  have n2 : notT x2 = z2 := by rw [← hx2, ← hz2, ← hN, ThM.not_or]
  have p1 : andT [x1, y1] = a1 := by rw [← hx1, ← hy1, ← ha1, and_app]
  have p2 : orT [x2, y2] = a2 := by rw [← hx2, ← hy2, ← ha2, or_app]
  have hNl : N.length = l.length := by rw [← hN]; simp
  have HNat := Lib.hid (show ∀ k (hk : k < l.length) (hk' : k < N.length), N[k] = notT l[k] from fun k hk hk' => by subst hN; simp)
  have HAL := Lib.hid (fun W (hW : Below w.heap.size w W) => hx1 ▸ tand_any l _ W (intR_below h hW) (by omega))
  have HOL := Lib.hid (fun W (hW : Below w.heap.size w W) => hx2 ▸ tor_any l _ W (intR_below h hW) (by omega))
  have HAM := Lib.hid (fun W (hW : Below w.heap.size w W) => hy1 ▸ tand_any m _ W (intR_below hmm hW) (by omega))
  have HOM := Lib.hid (fun W (hW : Below w.heap.size w W) => hy2 ▸ tor_any m _ W (intR_below hmm hW) (by omega))
  have HAN := Lib.hid (fun v W (hW : IntR W v N) => hz2 ▸ tand_any N v W hW (by omega))
  have HON := Lib.hid (fun v W (hW : IntR W v N) => hz1 ▸ tor_any N v W hW (by omega))
  have HAA := Lib.hid (fun v W (hW : IntR W v (l ++ m)) => ha1 ▸ tand_any (l ++ m) v W hW (by rw [List.length_append]; omega))
  have HOA := Lib.hid (fun v W (hW : IntR W v (l ++ m)) => ha2 ▸ tor_any (l ++ m) v W hW (by rw [List.length_append]; omega))
  have HA2 : Hid (∀ w' : World, Calls Try.prog 8 #[.slice (some ⟨w'.heap.size, 0, none⟩) 2 2] (w'.alloc (.cells #[.int .i64 x1, .int .i64 y1] 3)) (RetI a1 (w'.alloc (.cells #[.int .i64 x1, .int .i64 y1] 3)))) := fun w' => p1 ▸ tand_any [x1, y1] _ _ (intR_new w' [x1, y1] 3) (by simp)
  have HO2 : Hid (∀ w' : World, Calls Try.prog 10 #[.slice (some ⟨w'.heap.size, 0, none⟩) 2 2] (w'.alloc (.cells #[.int .i64 x2, .int .i64 y2] 3)) (RetI a2 (w'.alloc (.cells #[.int .i64 x2, .int .i64 y2] 3)))) := fun w' => p2 ▸ tor_any [x2, y2] _ _ (intR_new w' [x2, y2] 3) (by simp)
  obtain ⟨M, hM⟩ : ∃ M, l ++ m = M := ⟨_, rfl⟩
  rw [hM] at HAA HOA
  have HMM := Lib.hid hM
  clear hM
  have HT1 := Lib.hid (fun W => n1 ▸ tnot_any x1 W)
  have HT2 := Lib.hid (fun W => n2 ▸ tnot_any x2 W)
  have HI := Lib.hid h
  have HJ := Lib.hid hmm
  have HM := Lib.hid (fun (hl0 : 0 < l.length) => intR_addr h hl0)
  obtain ⟨n, hn⟩ : ∃ n, l.length = n := ⟨_, rfl⟩
  obtain ⟨n', hn'⟩ : ∃ n, m.length = n := ⟨_, rfl⟩
  have HL := Lib.hid hn
  have HL' := Lib.hid hn'
  have HNl := Lib.hid hNl
  rw [hn] at HAL HOL h1 hc ⊢
  rw [hn'] at HAM HOM h2 ⊢
  clear h hmm hn hn' hx1 hx2 hy1 hy2 hz1 hz2 ha1 ha2 n1 n2 p1 p2 hN hNl
  go_enter Try.func4, Try.ntmps4
  go_wp2
  go_loopw [5, 6] (fun v5 v6 wr => ∃ k : Nat, v6 = .int .i64 (k : Nat) ∧ k ≤ n ∧ wr.ownsRow w.heap.size 3 1 v5 k (zc (N.take k)) ∧ Below w.heap.size w wr) (fun _ v6 _ => n - (intOf v6).toNat)
  case atStart => exact ⟨0, rfl, Nat.zero_le _, World.ownsRow_nil _ _ _ _, Below.refl _ _⟩
  case round =>
    obtain ⟨k, rfl, hk, hown, hb⟩ := hrel
    have hsr := hb.size
    obtain ⟨oa, oc, rfl⟩ := ownsRow_slice hown
    by_cases hlt : k < n
    · have hkl : (k : Int) < (n : Int) := by omega
      have hi0 : (0 : Int) ≤ k := by omega
      have hkm : k < l.length := by rw [HL.out]; exact hlt
      obtain ⟨g, o, rfl, hg, e1⟩ := HM.out (by omega)
      have e0 := (hb.cell (p := ⟨g, o + k, none⟩) hg).trans (e1 k hkm)
      obtain ⟨nm, hnm⟩ : ∃ x, l[k] = x := ⟨_, rfl⟩
      rw [hnm] at e0
      have hkN : k < N.length := by rw [HNl.out]; exact hkm
      have hset := zc_take N k hkN
      rw [HNat.out k hkm hkN, hnm] at hset
      have HT := Lib.hid (tnot_any nm)
      obtain ⟨y, hy⟩ : ∃ y, notT nm = y := ⟨_, rfl⟩
      rw [hy] at HT hset
      have HS := Lib.hid hset
      have HBl := Lib.hid hb
      have HO := Lib.hid hown
      clear hb hnm hy hset hown e1
      go_wp2_with fail
      refine (HT.out _).mono ?_
      rintro en w5 ⟨rfl, rfl⟩
      have hown := HO.out
      go_wp2_with (at_builtin; refine wpList_pushg rfl (.tmp 23) (.tmp 29) 22 3 rfl w.heap.size 1 8 (.int .i64 0) Try.info3 Try.underlying22 rfl (by decide) [.int .i64 y] rfl (by simp [Value.oneCell']) (.slice oa k oc) k (zc (N.take k)) rfl _ rfl rfl hown (by unfold maxLen; omega) (by omega) hsr ?_)
      intro v2 w4 hown4 hb4
      rw [← HS.out] at hown4
      have HO4 := Lib.hid hown4
      have HB4 := Lib.hid (HBl.out.trans hb4)
      clear hown4 hown hb4 e0
      go_wp2
      go_roundw
      case rel => exact ⟨k + 1, by go_num, by omega, HO4.out, HB4.out⟩
      case measure => simp [intOf]; omega
    · obtain rfl : k = n := by omega
      have hint : IntR wr (.slice oa k oc) N := by
        have ho := hown
        rw [List.take_of_length_le (by rw [HNl.out, HL.out]; exact Nat.le_refl _)] at ho
        have := intR_owns (l := N) (by rw [HNl.out, HL.out]; exact ho)
        exact this
      have HN0 := Lib.hid hint
      have B0 := Lib.hid hb
      clear hint hown hb
      go_wp2_with (at_builtin; refine wpList_append_full rfl (.tmp 36) (.tmp 37) 22 3 rfl Try.info3 Try.underlying22 a l m ?ev ?il _ rfl ?im ?ln ?_)
      case ev => rw [HL.out]; rfl
      case il => exact intR_below (intR_cap HI.out _) B0.out
      case im => rw [← HL'.out]; exact intR_below HJ.out B0.out
      case ln => rw [HL.out, HL'.out]; omega
      intro v7 w7 hi7 hb7
      rw [HMM.out] at hi7
      have I7 := Lib.hid hi7
      have B7 := Lib.hid (B0.out.trans (hb7.mono B0.out.size))
      have J7 := Lib.hid (intR_below HN0.out hb7)
      obtain ⟨a7, c7, rfl, _⟩ := hi7
      clear hb7
      go_wp2_with fail
      refine (HAL.out _ B7.out).mono ?_
      rintro en w8 ⟨rfl, hb⟩
      have B8 := Lib.hid (B7.out.trans (hb.mono B7.out.size))
      have C8 := Lib.hid hb
      clear hb
      go_wp2_with fail
      refine (HT1.out _).mono ?_
      rintro en w9 ⟨rfl, rfl⟩
      go_wp2_with fail
      refine (HON.out _ _ (intR_below J7.out C8.out)).mono ?_
      rintro en w10 ⟨rfl, hb⟩
      have B10 := Lib.hid (B8.out.trans (hb.mono B8.out.size))
      have C10 := Lib.hid (C8.out.trans (hb.mono C8.out.size))
      clear hb
      go_wp2_with fail
      refine (HOL.out _ B10.out).mono ?_
      rintro en w11 ⟨rfl, hb⟩
      have B11 := Lib.hid (B10.out.trans (hb.mono B10.out.size))
      have C11 := Lib.hid (C10.out.trans (hb.mono C10.out.size))
      clear hb
      go_wp2_with fail
      refine (HT2.out _).mono ?_
      rintro en w12 ⟨rfl, rfl⟩
      go_wp2_with fail
      refine (HAN.out _ _ (intR_below J7.out C11.out)).mono ?_
      rintro en w13 ⟨rfl, hb⟩
      have B13 := Lib.hid (B11.out.trans (hb.mono B11.out.size))
      have C13 := Lib.hid (C11.out.trans (hb.mono C11.out.size))
      clear hb
      go_wp2_with fail
      refine (HAL.out _ B13.out).mono ?_
      rintro en w14 ⟨rfl, hb⟩
      have B14 := Lib.hid (B13.out.trans (hb.mono B13.out.size))
      have C14 := Lib.hid (C13.out.trans (hb.mono C13.out.size))
      clear hb
      go_wp2_with fail
      refine (HAM.out _ B14.out).mono ?_
      rintro en w15 ⟨rfl, hb⟩
      have B15 := Lib.hid (B14.out.trans (hb.mono B14.out.size))
      have C15 := Lib.hid (C14.out.trans (hb.mono C14.out.size))
      clear hb
      go_wp2_with fail
      refine (HA2.out _).mono ?_
      rintro en w16 ⟨rfl, hb⟩
      have B16 := Lib.hid ((B15.out.alloc B15.out.size _).trans (hb.mono (by have := B15.out.size; simp; omega)))
      have C16 := Lib.hid ((C15.out.alloc C15.out.size _).trans (hb.mono (by have := C15.out.size; simp; omega)))
      clear hb
      go_wp2_with fail
      refine (HAA.out _ _ (intR_below I7.out C16.out)).mono ?_
      rintro en w17 ⟨rfl, hb⟩
      have B17 := Lib.hid (B16.out.trans (hb.mono B16.out.size))
      have C17 := Lib.hid (C16.out.trans (hb.mono C16.out.size))
      clear hb
      go_wp2_with fail
      refine (HOL.out _ B17.out).mono ?_
      rintro en w18 ⟨rfl, hb⟩
      have B18 := Lib.hid (B17.out.trans (hb.mono B17.out.size))
      have C18 := Lib.hid (C17.out.trans (hb.mono C17.out.size))
      clear hb
      go_wp2_with fail
      refine (HOM.out _ B18.out).mono ?_
      rintro en w19 ⟨rfl, hb⟩
      have B19 := Lib.hid (B18.out.trans (hb.mono B18.out.size))
      have C19 := Lib.hid (C18.out.trans (hb.mono C18.out.size))
      clear hb
      go_wp2_with fail
      refine (HO2.out _).mono ?_
      rintro en w20 ⟨rfl, hb⟩
      have B20 := Lib.hid ((B19.out.alloc B19.out.size _).trans (hb.mono (by have := B19.out.size; simp; omega)))
      have C20 := Lib.hid ((C19.out.alloc C19.out.size _).trans (hb.mono (by have := C19.out.size; simp; omega)))
      clear hb
      go_wp2_with fail
      refine (HOA.out _ _ (intR_below I7.out C20.out)).mono ?_
      rintro en w21 ⟨rfl, hb⟩
      have B21 := Lib.hid (B20.out.trans (hb.mono B20.out.size))
      have C21 := Lib.hid (C20.out.trans (hb.mono C20.out.size))
      clear hb
      go_wp2_with fail
      refine (tawake_any _).mono ?_
      rintro en w30 ⟨rfl, hb⟩
      have B30 := Lib.hid (B21.out.trans (hb.mono B21.out.size))
      clear hb
      go_wp2
      go_ret
      exact ⟨rfl, B30.out⟩
theorem tturn_walk (l m : List Int) (a b : Option Addr) (c d : Nat) (w : World) (h : IntR w (.slice a l.length c) l) (hmm : IntR w (.slice b m.length d) m) (hm : l.length ≤ maxLen) (hm2 : m.length ≤ maxLen) (hc : l.length ≤ c) (hnil : a = none → c = 0) (hcm : c ≤ maxLen) :
    Calls Try.prog 4 #[.slice a l.length c, .slice b m.length d] w fun e w' => e = .returned (.bool true) ∧ Below w.heap.size w w' := by
  by_cases h1 : 30 < l.length ∨ 30 < m.length
  · exact tturn_asleep l m a b c d w h1 hm hm2
  · exact tturn_core l m a b c d w h hmm (by omega) (by omega) hc hnil hcm
end Go.Proofs.Ytpnmhghjpmkilaa
