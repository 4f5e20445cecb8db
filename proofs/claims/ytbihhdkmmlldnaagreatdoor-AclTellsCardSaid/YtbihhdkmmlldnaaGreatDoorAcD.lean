/- Whether rules may be: the document's Check. -/
import Derived.Test.YtbihhdkmmlldnaaGreatDoorAcC
import Derived.Test.YtbihhdkmmlldnaaGreatDoorPlEF
namespace Go.Proofs.YtbihhdkmmlldnaaGreatDoor
set_option linter.unusedSimpArgs false
set_option linter.unusedVariables false
open Go Go.RowKit Go.Proofs.BerK Go.Proofs.MemK Go.Proofs.UtfK

/-- The document's parts, by whether there are any alone. -/
def AptPost (b : Bool) (w : World) (en : Ending) (w' : World) : Prop := (∃ a n c, en = .returned (.tuple #[.slice a n c, .bool b])) ∧ Below w.heap.size w w'
theorem rpt_any (s : List UInt8) (w : World) : Calls Tryz.prog 30 #[.string ⟨s.toArray⟩] w (AptPost (nmOk s) w) := by
  refine (rparts_any s w).mono fun en w' h => ?_
  unfold nmOk
  cases hq : nrD s with
  | none =>
    rw [ps_none hq] at h
    change en = .returned (.tuple #[.slice none 0 0, .bool false]) ∧ Below w.heap.size w w' at h
    exact ⟨⟨_, _, _, h.1⟩, h.2⟩
  | some D =>
    rw [ps_some hq] at h
    obtain ⟨v, h1, h2, h3⟩ := (show ∃ v, en = .returned (.tuple #[v, .bool true]) ∧ w'.ownsRow w.heap.size _ 1 v (D.map ptL).length (sc (D.map ptL)) ∧ Below w.heap.size w w' from h)
    obtain ⟨a, c, rfl⟩ := ownsRow_slice h2
    exact ⟨⟨_, _, _, h1⟩, h3⟩
theorem er_rt {L : List Rl} (h : L.all rtOk = true) : erA (L.all rtOk) = 0 := by rw [h]; rfl
theorem er_rn {L : List Rl} (k : Nat) (hk : k < L.length) (h : rtOk L[k] = false) : erA (L.all rtOk) = 1 := by
  have : L.all rtOk = false := by
    rw [List.all_eq_false]
    exact ⟨L[k], List.getElem_mem hk, by simp [h]⟩
  rw [this]; rfl
set_option maxHeartbeats 6400000 in
set_option maxRecDepth 100000 in
theorem rcheck16_any (v : Value) (L : List Rl) (w : World) (hs : 256 < L.length ∨ ∀ r ∈ L, r.2.2.1.length ≤ 80) (h : RlAt w v L) : Calls Tryz.prog 12 #[v] w (NumPost (ckA L) w) := by
  obtain ⟨a, c, rfl, _⟩ := id h
  have HA := Lib.hid h
  clear h
  obtain ⟨n, hn⟩ : ∃ n, L.length = n := ⟨_, rfl⟩
  have HL := Lib.hid hn
  rw [hn] at hs ⊢
  by_cases h0 : 256 < n
  · have H := Lib.hid (ckA_long (l := L) (by omega))
    have h1 : (256 : Int) < (n : Int) := by omega
    clear h0 hn hs
    go_enter Tryz.func12, Tryz.ntmps12
    go_wp2
    go_ret
    exact numPost_mk H.out (Below.refl _ _)
  have h1 : ¬ (256 : Int) < (n : Int) := by omega
  have hnb : n ≤ 256 := by omega
  have HK := Lib.hid (ckA_bad (l := L) (by omega))
  have HO := Lib.hid (ckA_ok (l := L) (by omega))
  have HSz := Lib.hid (hs.resolve_left h0)
  clear h0 hn hs
  go_enter Tryz.func12, Tryz.ntmps12
  go_wp2
  go_loopw [3] (fun v wr => ∃ k : Nat, k ≤ n ∧ v = .int .i64 (k : Nat) ∧ Below w.heap.size w wr ∧ (L.take k).all rlOk = true) (fun v _ => n - (intOf v).toNat)
  case atStart => exact ⟨0, by omega, rfl, Below.refl _ _, rfl⟩
  case round =>
    obtain ⟨k, hk, rfl, hb, hall⟩ := hrel
    by_cases hlt : k < n
    · have hkl : (k : Int) < (n : Int) := by omega
      have hkL : k < L.length := by rw [HL.out]; exact hlt
      have hA2 := rlAt_below HA.out hb
      rw [HL.out] at hA2
      obtain ⟨g, o, rfl, hg, c0, c1, c2, c3, c4⟩ := rlAt_five hA2 k hkL
      have HS := Lib.hid (all_snoc rlOk L k hkL)
      have HB := Lib.hid (fun hq => HK.out k hkL hq)
      have hz := HSz.out _ (List.getElem_mem hkL)
      obtain ⟨⟨s0, s1, s2, s3, s4⟩, hr⟩ : ∃ x, L[k] = x := ⟨_, rfl⟩
      rw [hr] at c0 c1 c2 c3 c4 HS HB hz
      dsimp only at c0 c1 c2 c3 c4 hz
      have HP1 := Lib.hid (fun w' => rpt_any s0 w')
      have HP2 := Lib.hid (fun w' => rpt_any s1 w')
      have HTy := Lib.hid (fun w' => show Calls Tryz.prog 31 #[.string ⟨s2.toArray⟩] w' (PureB (tyL s2) w') from rtyped_any ⟨s2.toArray⟩ (by show s2.length ≤ _; omega) w')
      have HX := Lib.hid (And.intro hb hall)
      have HR : Hid (rlOk (s0, s1, s2, s3, s4) = ((s0 == [42] || nmOk s0) && nmOk s1 && (s2 == [42] || tyL s2))) := Lib.hid rfl
      obtain ⟨m1, e1⟩ : ∃ x, nmOk s0 = x := ⟨_, rfl⟩
      obtain ⟨m2, e2⟩ : ∃ x, nmOk s1 = x := ⟨_, rfl⟩
      obtain ⟨m3, e3⟩ : ∃ x, tyL s2 = x := ⟨_, rfl⟩
      rw [e1] at HP1 HR
      rw [e2] at HP2 HR
      rw [e3] at HTy HR
      have hways : (((s0 == [42]) = false ∧ m1 = false) ∨ ((s0 == [42]) = true ∧ m1 = false ∧ m2 = false) ∨ (m1 = true ∧ m2 = false)) ∨ (((s0 == [42]) = true ∧ m1 = false ∧ m2 = true ∧ (s2 == [42]) = false ∧ m3 = false) ∨ (m1 = true ∧ m2 = true ∧ (s2 == [42]) = false ∧ m3 = false)) ∨ (((s0 == [42]) = true ∧ m1 = false ∧ m2 = true ∧ (s2 == [42]) = true) ∨ (m1 = true ∧ m2 = true ∧ (s2 == [42]) = true)) ∨ (((s0 == [42]) = true ∧ m1 = false ∧ m2 = true ∧ (s2 == [42]) = false ∧ m3 = true) ∨ (m1 = true ∧ m2 = true ∧ (s2 == [42]) = false ∧ m3 = true)) := by
        cases (s0 == [42]) <;> cases m1 <;> cases m2 <;> cases (s2 == [42]) <;> cases m3 <;> simp
      have f0 := fun w' (hb : Below wr.heap.size wr w') => (hb.cell (p := ⟨g, _, none⟩) hg).trans c0
      have f1 := fun w' (hb : Below wr.heap.size wr w') => (hb.cell (p := ⟨g, _, none⟩) hg).trans c1
      have f2 := fun w' (hb : Below wr.heap.size wr w') => (hb.cell (p := ⟨g, _, none⟩) hg).trans c2
      have HF := Lib.hid (And.intro f0 (And.intro f1 f2))
      clear hb hall hA2 hr e1 e2 e3 f0 f1 f2 hz
      go_wp2_with fail
      refine (HP1.out _).mono ?_
      rintro e w2 ⟨⟨pa, pn, pc, rfl⟩, hb2⟩
      have c1 := HF.out.2.1 w2 hb2
      have H2 := Lib.hid hb2
      clear hb2
      go_wp2_with fail
      refine (HP2.out _).mono ?_
      rintro e w3 ⟨⟨pa2, pn2, pc2, rfl⟩, hb3⟩
      have H3 := Lib.hid (H2.out.trans (hb3.mono H2.out.size))
      have c0 := HF.out.1 w3 H3.out
      have c2 := HF.out.2.2 w3 H3.out
      have HB3 := Lib.hid (HX.out.1.trans (H3.out.mono HX.out.1.size))
      clear hb3 c1
      rcases hways with (hways | hways | hways)
      · have HN := Lib.hid (HB.out (by
          rw [HR.out]
          rcases hways with ⟨p1, p2⟩ | ⟨p1, p2, p3⟩ | ⟨p1, p2⟩ <;> simp_all))
        rcases hways with ⟨p1, rfl⟩ | ⟨p1, rfl, rfl⟩ | ⟨rfl, rfl⟩
        all_goals
          go_wp2
          go_ret
          exact numPost_mk HN.out HB3.out
      · have HN := Lib.hid (HB.out (by
          rw [HR.out]
          rcases hways with ⟨p1, p2, p3, p4, p5⟩ | ⟨p2, p3, p4, p5⟩ <;> simp_all))
        rcases hways with ⟨p1, rfl, rfl, p2, rfl⟩ | ⟨rfl, rfl, p2, rfl⟩
        all_goals
          go_wp2_with fail
          refine (HTy.out _).mono ?_
          rintro e w4 ⟨rfl, h4⟩
          obtain rfl := h4.symm
          go_wp2
          go_ret
          exact numPost_mk HN.out HB3.out
      · rcases hways with hways | hways
        · have HG := Lib.hid (show (L.take (k + 1)).all rlOk = true by
            rw [HS.out, HX.out.2, HR.out]
            rcases hways with ⟨p1, p2, p3, p4⟩ | ⟨p2, p3, p4⟩ <;> simp_all)
          rcases hways with ⟨p1, rfl, rfl, p2⟩ | ⟨rfl, rfl, p2⟩
          all_goals
            go_wp2
            exact ⟨⟨k + 1, by omega, by go_num, HB3.out, HG.out⟩, by simp [intOf]; omega⟩
        · have HG := Lib.hid (show (L.take (k + 1)).all rlOk = true by
            rw [HS.out, HX.out.2, HR.out]
            rcases hways with ⟨p1, p2, p3, p4, p5⟩ | ⟨p2, p3, p4, p5⟩ <;> simp_all)
          rcases hways with ⟨p1, rfl, rfl, p2, rfl⟩ | ⟨rfl, rfl, p2, rfl⟩
          all_goals
            go_wp2_with fail
            refine (HTy.out _).mono ?_
            rintro e w4 ⟨rfl, h4⟩
            obtain rfl := h4.symm
            go_wp2
            exact ⟨⟨k + 1, by omega, by go_num, HB3.out, HG.out⟩, by simp [intOf]; omega⟩
    · obtain rfl : k = n := by omega
      have hl : L.take k = L := by rw [← HL.out]; exact List.take_length
      rw [hl] at hall
      have HCk := Lib.hid (HO.out hall)
      have HBo := Lib.hid hb
      clear hall hb hl
      go_wp2
      go_loopw [8] (fun v wz => ∃ j : Nat, j ≤ k ∧ v = .int .i64 (j : Nat) ∧ Below w.heap.size w wz ∧ (L.take j).all rtOk = true) (fun v _ => k - (intOf v).toNat)
      case atStart => exact ⟨0, by omega, rfl, HBo.out, rfl⟩
      case round =>
        obtain ⟨j, hj, rfl, hb, hall⟩ := hrel
        by_cases hlj : j < k
        · have hjl : (j : Int) < (k : Int) := by omega
          have hjL : j < L.length := by rw [HL.out]; exact hlj
          have hA2 := rlAt_below HA.out hb
          rw [HL.out] at hA2
          obtain ⟨g, o, rfl, hg, _, _, _, c3, _⟩ := rlAt_five hA2 j hjL
          have HS := Lib.hid (all_snoc rtOk L j hjL)
          have HB := Lib.hid (fun hq => er_rn j hjL hq)
          obtain ⟨⟨s0, s1, s2, s3, s4⟩, hr⟩ : ∃ x, L[j] = x := ⟨_, rfl⟩
          rw [hr] at c3 HS HB
          dsimp only at c3
          have HX := Lib.hid (And.intro hb hall)
          have HT : Hid (rtOk (s0, s1, s2, s3, s4) = (s3 == 1 || s3 == 2)) := Lib.hid rfl
          clear hb hall hA2 hr
          rcases rt_ways s3 with ⟨r1, r3⟩ | ⟨r1, r2, r3⟩ | ⟨r1, r2, r3⟩
          · have q1 : (s3 != 1) = false := by simp [r1]
            have HG := Lib.hid (show (L.take (j + 1)).all rtOk = true by rw [HS.out, HX.out.2, HT.out, r3]; rfl)
            clear r1 r3
            go_wp2
            exact ⟨⟨j + 1, by omega, by go_num, HX.out.1, HG.out⟩, by simp [intOf]; omega⟩
          · have q1 : (s3 != 1) = true := by simp [r1]
            have q2 : (s3 != 2) = false := by simp [r2]
            have HG := Lib.hid (show (L.take (j + 1)).all rtOk = true by rw [HS.out, HX.out.2, HT.out, r3]; rfl)
            clear r1 r2 r3
            go_wp2
            exact ⟨⟨j + 1, by omega, by go_num, HX.out.1, HG.out⟩, by simp [intOf]; omega⟩
          · have q1 : (s3 != 1) = true := by simp [r1]
            have q2 : (s3 != 2) = true := by simp [r2]
            have HG := Lib.hid (show ckA L = 1 by rw [HCk.out]; exact HB.out (by rw [HT.out, r3]))
            clear r1 r2 r3
            go_wp2
            go_ret
            exact numPost_mk HG.out HX.out.1
        · obtain rfl : j = k := by omega
          have hl : L.take j = L := by rw [← HL.out]; exact List.take_length
          rw [hl] at hall
          have H := Lib.hid (And.intro hb (show ckA L = 0 by rw [HCk.out]; exact er_rt hall))
          clear hb hall hl
          go_wp2
          go_ret
          exact numPost_mk H.out.2 H.out.1
end Go.Proofs.YtbihhdkmmlldnaaGreatDoor
