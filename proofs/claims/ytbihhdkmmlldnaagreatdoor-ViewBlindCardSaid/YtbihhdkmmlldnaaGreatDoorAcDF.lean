/- Whether rules may be: the document's Check. The first rule that fits, and whether it is given: the document's First, Allowed. -/
import Derived.Test.YtbihhdkmmlldnaaGreatDoorAcAE
import Derived.Test.YtbihhdkmmlldnaaGreatDoorPlEF
namespace Go.Proofs.YtbihhdkmmlldnaaGreatDoor
set_option linter.unusedSimpArgs false
set_option linter.unusedVariables false
open Go Go.RowKit Go.Proofs.BerK Go.Proofs.MemK Go.Proofs.UtfK

/-- The document's parts, by whether there are any alone. -/
def AptPost (b : Bool) (w : World) (en : Ending) (w' : World) : Prop := (∃ a n c, en = .returned (.tuple #[.slice a n c, .bool b])) ∧ Below w.heap.size w w'
theorem rpt_any (s : List UInt8) (w : World) : Calls Tryz.prog 30 #[.string ⟨s.toArray⟩] w (AptPost (nrOk s) w) := by
  refine (rparts_any s w).mono fun en w' h => ?_
  unfold nrOk
  cases hq : nrD s with
  | none =>
    rw [ps_none hq] at h
    change en = .returned (.tuple #[.slice none 0 0, .bool false]) ∧ Below w.heap.size w w' at h
    exact ⟨⟨_, _, _, h.1⟩, h.2⟩
  | some D =>
    rw [ps_some hq] at h
    obtain ⟨v, h1, h2, h3⟩ := (show ∃ v, en = .returned (.tuple #[v, .bool true]) ∧ w'.ownsRow w.heap.size _ 1 v (D.map ptL).length (sc (D.map ptL)) ∧ Below w.heap.size w w' from h)
    obtain ⟨a, c, rfl⟩ := ownsRow_slice h2
    exact ⟨⟨_, _, _, h1⟩, h3⟩
theorem er_rt {L : List Rl} (h : L.all rtOk = true) : erA (L.all rtOk) = 0 := by rw [h]; rfl
theorem er_rn {L : List Rl} (k : Nat) (hk : k < L.length) (h : rtOk L[k] = false) : erA (L.all rtOk) = 1 := by
  have : L.all rtOk = false := by
    rw [List.all_eq_false]
    exact ⟨L[k], List.getElem_mem hk, by simp [h]⟩
  rw [this]; rfl
set_option maxHeartbeats 6400000 in
set_option maxRecDepth 100000 in
theorem rcheck16_any (v : Value) (L : List Rl) (w : World) (hs : 256 < L.length ∨ ∀ r ∈ L, r.2.2.1.length ≤ 80) (h : RlAt w v L) : Calls Tryz.prog 12 #[v] w (NumPost (ckA L) w) := by
  obtain ⟨a, c, rfl, _⟩ := id h
  have HA := Lib.hid h
  clear h
  obtain ⟨n, hn⟩ : ∃ n, L.length = n := ⟨_, rfl⟩
  have HL := Lib.hid hn
  rw [hn] at hs ⊢
  by_cases h0 : 256 < n
  · have H := Lib.hid (ckA_long (l := L) (by omega))
    have h1 : (256 : Int) < (n : Int) := by omega
    clear h0 hn hs
    go_enter Tryz.func12, Tryz.ntmps12
    go_wp2
    go_ret
    exact numPost_mk H.out (Below.refl _ _)
  have h1 : ¬ (256 : Int) < (n : Int) := by omega
  have hnb : n ≤ 256 := by omega
  have HK := Lib.hid (ckA_bad (l := L) (by omega))
  have HO := Lib.hid (ckA_ok (l := L) (by omega))
  have HSz := Lib.hid (hs.resolve_left h0)
  clear h0 hn hs
  go_enter Tryz.func12, Tryz.ntmps12
  go_wp2
  go_loopw [3] (fun v wr => ∃ k : Nat, k ≤ n ∧ v = .int .i64 (k : Nat) ∧ Below w.heap.size w wr ∧ (L.take k).all rlOk = true) (fun v _ => n - (intOf v).toNat)
  case atStart => exact ⟨0, by omega, rfl, Below.refl _ _, rfl⟩
  case round =>
    obtain ⟨k, hk, rfl, hb, hall⟩ := hrel
    by_cases hlt : k < n
    · have hkl : (k : Int) < (n : Int) := by omega
      have hkL : k < L.length := by rw [HL.out]; exact hlt
      have hA2 := rlAt_below HA.out hb
      rw [HL.out] at hA2
      obtain ⟨g, o, rfl, hg, c0, c1, c2, c3, c4⟩ := rlAt_five hA2 k hkL
      have HS := Lib.hid (all_snoc rlOk L k hkL)
      have HB := Lib.hid (fun hq => HK.out k hkL hq)
      have hz := HSz.out _ (List.getElem_mem hkL)
      obtain ⟨⟨s0, s1, s2, s3, s4⟩, hr⟩ : ∃ x, L[k] = x := ⟨_, rfl⟩
      rw [hr] at c0 c1 c2 c3 c4 HS HB hz
      dsimp only at c0 c1 c2 c3 c4 hz
      have HP1 := Lib.hid (fun w' => rpt_any s0 w')
      have HP2 := Lib.hid (fun w' => rpt_any s1 w')
      have HTy := Lib.hid (fun w' => show Calls Tryz.prog 31 #[.string ⟨s2.toArray⟩] w' (PureB (tyL s2) w') from rtyped_any ⟨s2.toArray⟩ (by show s2.length ≤ _; omega) w')
      have HX := Lib.hid (And.intro hb hall)
      have HR : Hid (rlOk (s0, s1, s2, s3, s4) = ((s0 == [42] || nrOk s0) && nrOk s1 && (s2 == [42] || tyL s2))) := Lib.hid rfl
      obtain ⟨m1, e1⟩ : ∃ x, nrOk s0 = x := ⟨_, rfl⟩
      obtain ⟨m2, e2⟩ : ∃ x, nrOk s1 = x := ⟨_, rfl⟩
      obtain ⟨m3, e3⟩ : ∃ x, tyL s2 = x := ⟨_, rfl⟩
      rw [e1] at HP1 HR
      rw [e2] at HP2 HR
      rw [e3] at HTy HR
      have hways : (((s0 == [42]) = false ∧ m1 = false) ∨ ((s0 == [42]) = true ∧ m1 = false ∧ m2 = false) ∨ (m1 = true ∧ m2 = false)) ∨ (((s0 == [42]) = true ∧ m1 = false ∧ m2 = true ∧ (s2 == [42]) = false ∧ m3 = false) ∨ (m1 = true ∧ m2 = true ∧ (s2 == [42]) = false ∧ m3 = false)) ∨ (((s0 == [42]) = true ∧ m1 = false ∧ m2 = true ∧ (s2 == [42]) = true) ∨ (m1 = true ∧ m2 = true ∧ (s2 == [42]) = true)) ∨ (((s0 == [42]) = true ∧ m1 = false ∧ m2 = true ∧ (s2 == [42]) = false ∧ m3 = true) ∨ (m1 = true ∧ m2 = true ∧ (s2 == [42]) = false ∧ m3 = true)) := by
        cases (s0 == [42]) <;> cases m1 <;> cases m2 <;> cases (s2 == [42]) <;> cases m3 <;> simp
      have f0 := fun w' (hb : Below wr.heap.size wr w') => (hb.cell (p := ⟨g, _, none⟩) hg).trans c0
      have f1 := fun w' (hb : Below wr.heap.size wr w') => (hb.cell (p := ⟨g, _, none⟩) hg).trans c1
      have f2 := fun w' (hb : Below wr.heap.size wr w') => (hb.cell (p := ⟨g, _, none⟩) hg).trans c2
      have HF := Lib.hid (And.intro f0 (And.intro f1 f2))
      clear hb hall hA2 hr e1 e2 e3 f0 f1 f2 hz
      go_wp2_with fail
      refine (HP1.out _).mono ?_
      rintro e w2 ⟨⟨pa, pn, pc, rfl⟩, hb2⟩
      have c1 := HF.out.2.1 w2 hb2
      have H2 := Lib.hid hb2
      clear hb2
      go_wp2_with fail
      refine (HP2.out _).mono ?_
      rintro e w3 ⟨⟨pa2, pn2, pc2, rfl⟩, hb3⟩
      have H3 := Lib.hid (H2.out.trans (hb3.mono H2.out.size))
      have c0 := HF.out.1 w3 H3.out
      have c2 := HF.out.2.2 w3 H3.out
      have HB3 := Lib.hid (HX.out.1.trans (H3.out.mono HX.out.1.size))
      clear hb3 c1
      rcases hways with (hways | hways | hways)
      · have HN := Lib.hid (HB.out (by
          rw [HR.out]
          rcases hways with ⟨p1, p2⟩ | ⟨p1, p2, p3⟩ | ⟨p1, p2⟩ <;> simp_all))
        rcases hways with ⟨p1, rfl⟩ | ⟨p1, rfl, rfl⟩ | ⟨rfl, rfl⟩
        all_goals
          go_wp2
          go_ret
          exact numPost_mk HN.out HB3.out
      · have HN := Lib.hid (HB.out (by
          rw [HR.out]
          rcases hways with ⟨p1, p2, p3, p4, p5⟩ | ⟨p2, p3, p4, p5⟩ <;> simp_all))
        rcases hways with ⟨p1, rfl, rfl, p2, rfl⟩ | ⟨rfl, rfl, p2, rfl⟩
        all_goals
          go_wp2_with fail
          refine (HTy.out _).mono ?_
          rintro e w4 ⟨rfl, h4⟩
          obtain rfl := h4.symm
          go_wp2
          go_ret
          exact numPost_mk HN.out HB3.out
      · rcases hways with hways | hways
        · have HG := Lib.hid (show (L.take (k + 1)).all rlOk = true by
            rw [HS.out, HX.out.2, HR.out]
            rcases hways with ⟨p1, p2, p3, p4⟩ | ⟨p2, p3, p4⟩ <;> simp_all)
          rcases hways with ⟨p1, rfl, rfl, p2⟩ | ⟨rfl, rfl, p2⟩
          all_goals
            go_wp2
            exact ⟨⟨k + 1, by omega, by go_num, HB3.out, HG.out⟩, by simp [intOf]; omega⟩
        · have HG := Lib.hid (show (L.take (k + 1)).all rlOk = true by
            rw [HS.out, HX.out.2, HR.out]
            rcases hways with ⟨p1, p2, p3, p4, p5⟩ | ⟨p2, p3, p4, p5⟩ <;> simp_all)
          rcases hways with ⟨p1, rfl, rfl, p2, rfl⟩ | ⟨rfl, rfl, p2, rfl⟩
          all_goals
            go_wp2_with fail
            refine (HTy.out _).mono ?_
            rintro e w4 ⟨rfl, h4⟩
            obtain rfl := h4.symm
            go_wp2
            exact ⟨⟨k + 1, by omega, by go_num, HB3.out, HG.out⟩, by simp [intOf]; omega⟩
    · obtain rfl : k = n := by omega
      have hl : L.take k = L := by rw [← HL.out]; exact List.take_length
      rw [hl] at hall
      have HCk := Lib.hid (HO.out hall)
      have HBo := Lib.hid hb
      clear hall hb hl
      go_wp2
      go_loopw [8] (fun v wz => ∃ j : Nat, j ≤ k ∧ v = .int .i64 (j : Nat) ∧ Below w.heap.size w wz ∧ (L.take j).all rtOk = true) (fun v _ => k - (intOf v).toNat)
      case atStart => exact ⟨0, by omega, rfl, HBo.out, rfl⟩
      case round =>
        obtain ⟨j, hj, rfl, hb, hall⟩ := hrel
        by_cases hlj : j < k
        · have hjl : (j : Int) < (k : Int) := by omega
          have hjL : j < L.length := by rw [HL.out]; exact hlj
          have hA2 := rlAt_below HA.out hb
          rw [HL.out] at hA2
          obtain ⟨g, o, rfl, hg, _, _, _, c3, _⟩ := rlAt_five hA2 j hjL
          have HS := Lib.hid (all_snoc rtOk L j hjL)
          have HB := Lib.hid (fun hq => er_rn j hjL hq)
          obtain ⟨⟨s0, s1, s2, s3, s4⟩, hr⟩ : ∃ x, L[j] = x := ⟨_, rfl⟩
          rw [hr] at c3 HS HB
          dsimp only at c3
          have HX := Lib.hid (And.intro hb hall)
          have HT : Hid (rtOk (s0, s1, s2, s3, s4) = (s3 == 1 || s3 == 2)) := Lib.hid rfl
          clear hb hall hA2 hr
          rcases rt_ways s3 with ⟨r1, r3⟩ | ⟨r1, r2, r3⟩ | ⟨r1, r2, r3⟩
          · have q1 : (s3 != 1) = false := by simp [r1]
            have HG := Lib.hid (show (L.take (j + 1)).all rtOk = true by rw [HS.out, HX.out.2, HT.out, r3]; rfl)
            clear r1 r3
            go_wp2
            exact ⟨⟨j + 1, by omega, by go_num, HX.out.1, HG.out⟩, by simp [intOf]; omega⟩
          · have q1 : (s3 != 1) = true := by simp [r1]
            have q2 : (s3 != 2) = false := by simp [r2]
            have HG := Lib.hid (show (L.take (j + 1)).all rtOk = true by rw [HS.out, HX.out.2, HT.out, r3]; rfl)
            clear r1 r2 r3
            go_wp2
            exact ⟨⟨j + 1, by omega, by go_num, HX.out.1, HG.out⟩, by simp [intOf]; omega⟩
          · have q1 : (s3 != 1) = true := by simp [r1]
            have q2 : (s3 != 2) = true := by simp [r2]
            have HG := Lib.hid (show ckA L = 1 by rw [HCk.out]; exact HB.out (by rw [HT.out, r3]))
            clear r1 r2 r3
            go_wp2
            go_ret
            exact numPost_mk HG.out HX.out.1
        · obtain rfl : j = k := by omega
          have hl : L.take j = L := by rw [← HL.out]; exact List.take_length
          rw [hl] at hall
          have H := Lib.hid (And.intro hb (show ckA L = 0 by rw [HCk.out]; exact er_rt hall))
          clear hb hall hl
          go_wp2
          go_ret
          exact numPost_mk H.out.2 H.out.1
end Go.Proofs.YtbihhdkmmlldnaaGreatDoor
namespace Go.Proofs.YtbihhdkmmlldnaaGreatDoor
set_option linter.unusedSimpArgs false
set_option linter.unusedVariables false
open Go Go.RowKit Go.Proofs.BerK Go.Proofs.MemK Go.Proofs.UtfK

set_option maxHeartbeats 12800000 in
set_option maxRecDepth 100000 in
theorem rfirst_any (v : Value) (L : List Rl) (s t u : List UInt8) (r : Int) (w : World) (hs : 256 < L.length ∨ ∀ r ∈ L, r.2.2.1.length ≤ 80) (hu : u.length ≤ 1000000) (h : RlAt w v L) : Calls Tryz.prog 14 #[v, .string ⟨s.toArray⟩, .string ⟨t.toArray⟩, .string ⟨u.toArray⟩, .int .i64 r] w (DepPost (fnI (frA L s t u r)) w) := by
  have HCk := Lib.hid (rcheck16_any v L w hs h)
  obtain ⟨a, c, rfl, _⟩ := id h
  have HA := Lib.hid h
  clear h
  obtain ⟨n, hn⟩ : ∃ n, L.length = n := ⟨_, rfl⟩
  have HL := Lib.hid hn
  rw [hn] at HCk hs ⊢
  obtain ⟨m, hm⟩ : ∃ m, ckA L = m := ⟨_, rfl⟩
  rw [hm] at HCk
  by_cases h0 : m ≠ 0
  · have H := Lib.hid (show fnI (frA L s t u r) = -1 by rw [fr_none (by rw [hm]; exact h0)]; rfl)
    have q : ((m : Int) != 0) = true := by simp; omega
    clear hm h0 hn hs
    go_enter Tryz.func14, Tryz.ntmps14
    go_wp2_with fail
    refine HCk.out.mono ?_
    rintro e w1 ⟨rfl, hb⟩
    have HB := Lib.hid hb
    clear hb
    go_wp2
    go_ret
    exact depPost_mk H.out HB.out
  have h0 : m = 0 := by omega
  subst h0
  have hn256 : ¬ 256 < n := by
    intro h
    have := ckA_long (l := L) (by omega); omega
  have HSz := Lib.hid (hs.resolve_left hn256)
  have hn256 : n ≤ 256 := by omega
  have HN0 := Lib.hid (fun h => show fnI (frA L s t u r) = -1 by rw [fr_no h]; rfl)
  have HN1 := Lib.hid (fun k hk h1 h2 => show fnI (frA L s t u r) = ((k : Nat) : Int) by rw [fr_at hm k hk h1 h2]; rfl)
  clear hm hn hs
  go_enter Tryz.func14, Tryz.ntmps14
  go_wp2_with fail
  refine HCk.out.mono ?_
  rintro e w1 ⟨rfl, hb⟩
  have HB1 := Lib.hid hb
  clear hb
  go_wp2
  go_loopw [11] (fun v wr => ∃ k : Nat, k ≤ n ∧ v = .int .i64 (k : Nat) ∧ Below w.heap.size w wr ∧ ∀ j (hj : j < L.length), j < k → fitA s t u r L[j] = false) (fun v _ => n - (intOf v).toNat)
  case atStart => exact ⟨0, by omega, rfl, HB1.out, fun j _ h => by omega⟩
  case round =>
    obtain ⟨k, hk, rfl, hb, hall⟩ := hrel
    by_cases hlt : k < n
    · have hkl : (k : Int) < (n : Int) := by omega
      have hkL : k < L.length := by rw [HL.out]; exact hlt
      have hA2 := rlAt_below HA.out hb
      rw [HL.out] at hA2
      obtain ⟨g, o, rfl, hg, c0, c1, c2, c3, c4⟩ := rlAt_five hA2 k hkL
      have HNf := Lib.hid (fun hq => nofit hall hkL hq)
      have HYf := Lib.hid (fun hq => HN1.out k hkL hq hall)
      have hz2 := HSz.out _ (List.getElem_mem hkL)
      obtain ⟨⟨s0, s1, s2, s3, s4⟩, hr⟩ : ∃ x, L[k] = x := ⟨_, rfl⟩
      rw [hr] at c0 c1 c2 c3 c4 HNf HYf hz2
      dsimp only at c0 c1 c2 c3 c4 hz2
      have HF := Lib.hid (fit_is s t u s0 s1 s2 r s3 s4)
      have HU := Lib.hid (fun w' => runder_any t s1 w')
      have HL1 := Lib.hid (fun w' => rlow5_any ⟨s2.toArray⟩ (by show s2.length ≤ _; omega) w')
      have HL2 := Lib.hid (fun w' => rlow5_any ⟨u.toArray⟩ (by show u.length ≤ _; omega) w')
      change Hid (∀ w', Calls Tryz.prog _ #[.string ⟨s2.toArray⟩] w' (StrPost (lowL s2) w')) at HL1
      change Hid (∀ w', Calls Tryz.prog _ #[.string ⟨u.toArray⟩] w' (StrPost (lowL u) w')) at HL2
      obtain ⟨b1, e1⟩ : ∃ x, undL t s1 = x := ⟨_, rfl⟩
      rw [e1] at HU HF
      have hways : ((s3 == r) = false ∨ ((s3 == r) = true ∧ (s0 == [42]) = false ∧ (s0 == s) = false)) ∨ (((s3 == r) = true ∧ (s0 == [42]) = true ∧ b1 = false) ∨ ((s3 == r) = true ∧ (s0 == [42]) = false ∧ (s0 == s) = true ∧ b1 = false)) ∨ (((s3 == r) = true ∧ (s0 == [42]) = true ∧ b1 = true ∧ (s2 == [42]) = true) ∨ ((s3 == r) = true ∧ (s0 == [42]) = false ∧ (s0 == s) = true ∧ b1 = true ∧ (s2 == [42]) = true)) ∨ (((s3 == r) = true ∧ (s0 == [42]) = true ∧ b1 = true ∧ (s2 == [42]) = false ∧ (lowL s2 == lowL u) = false) ∨ ((s3 == r) = true ∧ (s0 == [42]) = false ∧ (s0 == s) = true ∧ b1 = true ∧ (s2 == [42]) = false ∧ (lowL s2 == lowL u) = false)) ∨ (((s3 == r) = true ∧ (s0 == [42]) = true ∧ b1 = true ∧ (s2 == [42]) = false ∧ (lowL s2 == lowL u) = true) ∨ ((s3 == r) = true ∧ (s0 == [42]) = false ∧ (s0 == s) = true ∧ b1 = true ∧ (s2 == [42]) = false ∧ (lowL s2 == lowL u) = true)) := by
        cases (s3 == r) <;> cases (s0 == [42]) <;> cases (s0 == s) <;> cases b1 <;> cases (s2 == [42]) <;> cases (lowL s2 == lowL u) <;> simp
      obtain ⟨W, hW⟩ : ∃ W, wr.alloc (.cells #[.string ⟨s0.toArray⟩, .string ⟨s1.toArray⟩, .string ⟨s2.toArray⟩, .int .i64 s3, .bool s4] 34) = W := ⟨_, rfl⟩
      have hbx : W.heap[wr.heap.size]? = some (.cells #[.string ⟨s0.toArray⟩, .string ⟨s1.toArray⟩, .string ⟨s2.toArray⟩, .int .i64 s3, .bool s4] 34 (0, 0)) := by rw [← hW]; exact heap_alloc_new wr _
      have hbW0 : Below w.heap.size w W := by rw [← hW]; exact hb.alloc hb.size _
      have HWs := Lib.hid hbW0
      have hbW : Below W.heap.size W W := Below.refl _ W
      have d0 := obj_cell hbx 0 _ rfl
      have d1 := obj_cell hbx 1 _ rfl
      have d2 := obj_cell hbx 2 _ rfl
      have d3 := obj_cell hbx 3 _ rfl
      have hz : wr.heap.size < W.heap.size := obj_lt hbx
      clear hb hall hA2 hr e1 hbx hbW0 hz2
      rcases hways with hways | hways | hways | hways | hways
      · have HG := Lib.hid (HNf.out (by
          rw [HF.out]
          rcases hways with p | ⟨p, p2, p3⟩ <;> simp_all))
        rcases hways with p | ⟨p, p2, p3⟩
        all_goals
          go_wp2
          exact ⟨⟨k + 1, by omega, by go_num, by first | exact HWs.out | exact HWs.out.drew, HG.out⟩, by simp [intOf]; omega⟩
      · have HG := Lib.hid (HNf.out (by
          rw [HF.out]
          rcases hways with ⟨p, p2, p3⟩ | ⟨p, p2, p3, p4⟩ <;> simp_all))
        rcases hways with ⟨p, p2, rfl⟩ | ⟨p, p2, p3, rfl⟩
        all_goals
          go_wp2_with ((first | with_reducible refine (HU.out _).mono ?_ | with_reducible refine (HL1.out _).mono ?_ | with_reducible refine (HL2.out _).mono ?_); rintro en w5 ⟨rfl, hb5⟩; have hbW := hbW.trans (hb5.mono hbW.size); have h0 := (hbW.cell (p := ⟨wr.heap.size, 0, none⟩) hz).trans d0; have h1 := (hbW.cell (p := ⟨wr.heap.size, 1, none⟩) hz).trans d1; have h2 := (hbW.cell (p := ⟨wr.heap.size, 2, none⟩) hz).trans d2)
          exact ⟨⟨k + 1, by omega, by go_num, HWs.out.trans (hbW.mono HWs.out.size), HG.out⟩, by simp [intOf]; omega⟩
      · have HG := Lib.hid (HYf.out (by
          rw [HF.out]
          rcases hways with ⟨p, p2, p3, p4⟩ | ⟨p, p2, p3, p4, p5⟩ <;> simp_all))
        rcases hways with ⟨p, p2, rfl, p4⟩ | ⟨p, p2, p3, rfl, p4⟩
        all_goals
          go_wp2_with ((first | with_reducible refine (HU.out _).mono ?_ | with_reducible refine (HL1.out _).mono ?_ | with_reducible refine (HL2.out _).mono ?_); rintro en w5 ⟨rfl, hb5⟩; have hbW := hbW.trans (hb5.mono hbW.size); have h0 := (hbW.cell (p := ⟨wr.heap.size, 0, none⟩) hz).trans d0; have h1 := (hbW.cell (p := ⟨wr.heap.size, 1, none⟩) hz).trans d1; have h2 := (hbW.cell (p := ⟨wr.heap.size, 2, none⟩) hz).trans d2)
          go_ret
          exact depPost_mk HG.out (HWs.out.trans (hbW.mono HWs.out.size))
      · have HG := Lib.hid (HNf.out (by
          rw [HF.out]
          rcases hways with ⟨p, p2, p3, p4, p5⟩ | ⟨p, p2, p3, p4, p5, p6⟩ <;> simp_all))
        rcases hways with ⟨p, p2, rfl, p4, p5⟩ | ⟨p, p2, p3, rfl, p4, p5⟩
        all_goals
          go_wp2_with ((first | with_reducible refine (HU.out _).mono ?_ | with_reducible refine (HL1.out _).mono ?_ | with_reducible refine (HL2.out _).mono ?_); rintro en w5 ⟨rfl, hb5⟩; have hbW := hbW.trans (hb5.mono hbW.size); have h0 := (hbW.cell (p := ⟨wr.heap.size, 0, none⟩) hz).trans d0; have h1 := (hbW.cell (p := ⟨wr.heap.size, 1, none⟩) hz).trans d1; have h2 := (hbW.cell (p := ⟨wr.heap.size, 2, none⟩) hz).trans d2)
          exact ⟨⟨k + 1, by omega, by go_num, HWs.out.trans (hbW.mono HWs.out.size), HG.out⟩, by simp [intOf]; omega⟩
      · have HG := Lib.hid (HYf.out (by
          rw [HF.out]
          rcases hways with ⟨p, p2, p3, p4, p5⟩ | ⟨p, p2, p3, p4, p5, p6⟩ <;> simp_all))
        rcases hways with ⟨p, p2, rfl, p4, p5⟩ | ⟨p, p2, p3, rfl, p4, p5⟩
        all_goals
          go_wp2_with ((first | with_reducible refine (HU.out _).mono ?_ | with_reducible refine (HL1.out _).mono ?_ | with_reducible refine (HL2.out _).mono ?_); rintro en w5 ⟨rfl, hb5⟩; have hbW := hbW.trans (hb5.mono hbW.size); have h0 := (hbW.cell (p := ⟨wr.heap.size, 0, none⟩) hz).trans d0; have h1 := (hbW.cell (p := ⟨wr.heap.size, 1, none⟩) hz).trans d1; have h2 := (hbW.cell (p := ⟨wr.heap.size, 2, none⟩) hz).trans d2)
          go_ret
          exact depPost_mk HG.out (HWs.out.trans (hbW.mono HWs.out.size))
    · obtain rfl : k = n := by omega
      have H := Lib.hid (And.intro hb (HN0.out (fun j hj => hall j hj (by rw [← HL.out]; exact hj))))
      clear hb hall
      go_wp2
      go_ret
      exact depPost_mk H.out.2 H.out.1
set_option maxHeartbeats 3200000 in
set_option maxRecDepth 100000 in
theorem rallowed_any (v : Value) (L : List Rl) (s t u : List UInt8) (r : Int) (w : World) (hs : 256 < L.length ∨ ∀ r ∈ L, r.2.2.1.length ≤ 80) (hu : u.length ≤ 1000000) (h : RlAt w v L) : Calls Tryz.prog 16 #[v, .string ⟨s.toArray⟩, .string ⟨t.toArray⟩, .string ⟨u.toArray⟩, .int .i64 r] w (BoolPost (alA L s t u r) w) := by
  have HC := Lib.hid (rfirst_any v L s t u r w hs hu h)
  obtain ⟨a, c, rfl, _⟩ := id h
  have HA := Lib.hid h
  clear h hs
  cases hf : frA L s t u r with
  | none =>
    have H := Lib.hid (al_no hf)
    rw [hf, fn_none] at HC
    clear hf
    go_enter Tryz.func16, Tryz.ntmps16
    go_wp2_with fail
    refine HC.out.mono ?_
    rintro e w1 ⟨rfl, hb⟩
    have HB := Lib.hid hb
    clear hb
    go_wp2
    go_ret
    exact boolPost_mk H.out HB.out
  | some i =>
    have hi := fr_lt hf
    have H := Lib.hid (al_at hf hi)
    rw [hf, fn_some] at HC
    obtain ⟨n, hn⟩ : ∃ n, L.length = n := ⟨_, rfl⟩
    have HL := Lib.hid hn
    have HI := Lib.hid hi
    rw [hn] at hi HC ⊢
    have hil : (i : Int) < (n : Int) := by omega
    have q : (0 : Int) ≤ (i : Int) := by omega
    clear hf hn
    go_enter Tryz.func16, Tryz.ntmps16
    go_wp2_with fail
    refine HC.out.mono ?_
    rintro e w1 ⟨rfl, hb⟩
    have hA2 := rlAt_below HA.out hb
    obtain ⟨g, o, rfl, _, _, _, _, _, c4⟩ := rlAt_five hA2 i HI.out
    have HB := Lib.hid hb
    clear hb hA2
    go_wp2
    go_ret
    exact boolPost_mk H.out HB.out
end Go.Proofs.YtbihhdkmmlldnaaGreatDoor
