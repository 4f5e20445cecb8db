/- Whether rules may be: the code's Check. -/
import Derived.Test.YtbihhdkmmlldnaaGreatDoorAcB
namespace Go.Proofs.YtbihhdkmmlldnaaGreatDoor
set_option linter.unusedSimpArgs false
set_option linter.unusedVariables false
open Go Go.RowKit Go.Proofs.BerK Go.Proofs.MemK Go.Proofs.UtfK

theorem rt_ways (r : Int) : (r = 1 ∧ (r == 1 || r == 2) = true) ∨ (r ≠ 1 ∧ r = 2 ∧ (r == 1 || r == 2) = true) ∨ (r ≠ 1 ∧ r ≠ 2 ∧ (r == 1 || r == 2) = false) := by
  by_cases h1 : r = 1
  · exact .inl ⟨h1, by simp [h1]⟩
  · by_cases h2 : r = 2
    · exact .inr (.inl ⟨h1, h2, by simp [h2]⟩)
    · exact .inr (.inr ⟨h1, h2, by simp [h1, h2]⟩)
set_option maxHeartbeats 6400000 in
set_option maxRecDepth 100000 in
theorem acheck_any (v : Value) (L : List Rl) (w : World) (he : ErrOk w) (h : RlAt w v L) : Calls Tryz.prog 11 #[v] w (NumPost (ckA L) w) := by
  obtain ⟨a, c, rfl, _⟩ := id h
  have HA := Lib.hid h
  have HE := Lib.hid he
  clear h he
  obtain ⟨n, hn⟩ : ∃ n, L.length = n := ⟨_, rfl⟩
  have HL := Lib.hid hn
  rw [hn]
  by_cases h0 : 256 < n
  · have H := Lib.hid (ckA_long (l := L) (by omega))
    have h1 : (256 : Int) < (n : Int) := by omega
    clear h0 hn
    go_enter Tryz.func11, Tryz.ntmps11
    go_wp2
    go_step3
    go_wp2
    try rw [Exit.noGoto_ret]
    go_ret
    exact numPost_mk H.out (Below.refl _ _)
  have h1 : ¬ (256 : Int) < (n : Int) := by omega
  have hnb : n ≤ 256 := by omega
  have HK := Lib.hid (ckA_bad (l := L) (by omega))
  have HO := Lib.hid (ckA_ok (l := L) (by omega))
  have hE0 : Value.int .i64 (0 : Int) = .int .i64 ((erA ((L.take 0).all rtOk) : Nat) : Int) := by simp [erA]
  have HE0 := Lib.hid hE0
  clear h0 hn hE0
  go_enter Tryz.func11, Tryz.ntmps11
  go_wp2
  go_step3
  go_wp2
  go_step3
  go_wp2
  go_loopw [3, 11] (fun ev v wr => ∃ k : Nat, k ≤ n ∧ v = .int .i64 (k : Nat) ∧ ev = .int .i64 ((erA ((L.take k).all rtOk) : Nat) : Int) ∧ Below w.heap.size w wr ∧ (L.take k).all rlOk = true) (fun _ v _ => n - (intOf v).toNat)
  case atStart => exact ⟨0, by omega, rfl, HE0.out, Below.refl _ _, rfl⟩
  case round =>
    obtain ⟨k, hk, rfl, rfl, hb, hall⟩ := hrel
    by_cases hlt : k < n
    · have hkl : (k : Int) < (n : Int) := by omega
      have hkL : k < L.length := by rw [HL.out]; exact hlt
      have hA2 := rlAt_below HA.out hb
      rw [HL.out] at hA2
      obtain ⟨g, o, rfl, hg, c0, c1, c2, c3, c4⟩ := rlAt_five hA2 k hkL
      have HS := Lib.hid (And.intro (all_snoc rlOk L k hkL) (all_snoc rtOk L k hkL))
      have HB := Lib.hid (fun hq => HK.out k hkL hq)
      obtain ⟨⟨s0, s1, s2, s3, s4⟩, hr⟩ : ∃ x, L[k] = x := ⟨_, rfl⟩
      rw [hr] at c0 c1 c2 c3 c4 HS HB
      dsimp only at c0 c1 c2 c3 c4
      have HN := Lib.hid (fun w' (hb : Below w.heap.size w w') => anamed_any s0 s1 s2 s3 s4 w' (errOk_below HE.out hb))
      have HX := Lib.hid (And.intro hb hall)
      have HT : Hid (rtOk (s0, s1, s2, s3, s4) = (s3 == 1 || s3 == 2)) := Lib.hid rfl
      obtain ⟨q, hq⟩ : ∃ x, rlOk (s0, s1, s2, s3, s4) = x := ⟨_, rfl⟩
      rw [hq] at HN HS HB
      obtain ⟨er, her⟩ : ∃ x : Int, ((erA ((L.take k).all rtOk) : Nat) : Int) = x := ⟨_, rfl⟩
      have HER := Lib.hid her
      rw [her]
      clear hb hall hA2 hr hq her
      go_wp2_with fail
      refine (HN.out _ (by first | exact HX.out.1.alloc HX.out.1.size _ | exact (HX.out.1.alloc HX.out.1.size _).drew)).mono ?_
      rintro e w2 ⟨rfl, hb2⟩
      have hB2 : Below w.heap.size w w2 := (HX.out.1.alloc HX.out.1.size _).trans (hb2.mono (by simp; exact Nat.le_succ_of_le HX.out.1.size))
      cases q
      · have H := Lib.hid (And.intro hB2 (HB.out rfl))
        clear hb2 hB2
        go_wp2
        try rw [Exit.noGoto_ret]
        go_ret
        exact numPost_mk H.out.2 H.out.1
      · have hbx : w2.heap[wr.heap.size]? = some (.cells #[.string ⟨s0.toArray⟩, .string ⟨s1.toArray⟩, .string ⟨s2.toArray⟩, .int .i64 s3, .bool s4] 34 (0, 0)) := obj_below (heap_alloc_new wr _) hb2 (by simp)
        have x3 := obj_cell hbx 3 _ rfl
        have HG := Lib.hid (show (L.take (k + 1)).all rlOk = true by rw [HS.out.1, HX.out.2]; rfl)
        have HR := Lib.hid HS.out.2
        have HBB := Lib.hid hB2
        clear hb2 hB2 hbx
        rcases rt_ways s3 with ⟨r1, r3⟩ | ⟨r1, r2, r3⟩ | ⟨r1, r2, r3⟩
        · have q1 : (s3 != 1) = false := by simp [r1]
          have HF := Lib.hid (show er = ((erA ((L.take (k + 1)).all rtOk) : Nat) : Int) by rw [HR.out, HT.out, r3, Bool.and_true]; exact HER.out.symm)
          clear r1 r3
          go_wp2
          exact ⟨⟨k + 1, by omega, by go_num, by rw [← HF.out], HBB.out, HG.out⟩, by simp [intOf]; omega⟩
        · have q1 : (s3 != 1) = true := by simp [r1]
          have q2 : (s3 != 2) = false := by simp [r2]
          have HF := Lib.hid (show er = ((erA ((L.take (k + 1)).all rtOk) : Nat) : Int) by rw [HR.out, HT.out, r3, Bool.and_true]; exact HER.out.symm)
          clear r1 r2 r3
          go_wp2
          exact ⟨⟨k + 1, by omega, by go_num, by rw [← HF.out], HBB.out, HG.out⟩, by simp [intOf]; omega⟩
        · have q1 : (s3 != 1) = true := by simp [r1]
          have q2 : (s3 != 2) = true := by simp [r2]
          have HF := Lib.hid (show (1 : Int) = ((erA ((L.take (k + 1)).all rtOk) : Nat) : Int) by rw [HR.out, HT.out, r3, Bool.and_false]; rfl)
          clear r1 r2 r3
          go_wp2
          exact ⟨⟨k + 1, by omega, by go_num, by rw [← HF.out], HBB.out, HG.out⟩, by simp [intOf]; omega⟩
    · obtain rfl : k = n := by omega
      have hl : L.take k = L := by rw [← HL.out]; exact List.take_length
      rw [hl] at hall ⊢
      have H := Lib.hid (And.intro hb (HO.out hall))
      clear hb hall
      go_wp2
      try rw [Exit.noGoto_ret]
      go_ret
      exact numPost_mk H.out.2 H.out.1
end Go.Proofs.YtbihhdkmmlldnaaGreatDoor
