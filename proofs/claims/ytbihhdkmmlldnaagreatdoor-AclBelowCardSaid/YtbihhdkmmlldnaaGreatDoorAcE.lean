/- The first rule that fits, and whether it is given: the code's First, Allowed. -/
import Derived.Test.YtbihhdkmmlldnaaGreatDoorAcC
namespace Go.Proofs.YtbihhdkmmlldnaaGreatDoor
set_option linter.unusedSimpArgs false
set_option linter.unusedVariables false
open Go Go.RowKit Go.Proofs.BerK Go.Proofs.MemK Go.Proofs.UtfK

theorem fit_is (who at_ attr a b c : List UInt8) (right n : Int) (d : Bool) : fitA who at_ attr right (a, b, c, n, d) = ((n == right) && (a == [42] || a == who) && undL at_ b && (c == [42] || lowL c == lowL attr)) := rfl
theorem fit_low (who at_ attr a b c : List UInt8) (right n : Int) (d : Bool) : fitA who at_ attr right (a, b, c, n, d) = ((n == right) && (a == [42] || a == who) && undL at_ b && (lowL c == [42] || lowL c == lowL attr)) := by rw [fit_is, low_star]
theorem nofit {who at_ attr : List UInt8} {right : Int} {L : List Rl} {k : Nat} (h : ∀ j (hj : j < L.length), j < k → fitA who at_ attr right L[j] = false) (hk : k < L.length) (h2 : fitA who at_ attr right L[k] = false) : ∀ j (hj : j < L.length), j < k + 1 → fitA who at_ attr right L[j] = false := by
  intro j hj hjk
  by_cases e : j = k
  · subst e; exact h2
  · exact h j hj (by omega)
theorem fn_none : fnI none = -1 := rfl
theorem fn_some (k : Nat) : fnI (some k) = (k : Nat) := rfl
set_option maxHeartbeats 12800000 in
set_option maxRecDepth 100000 in
theorem afirst_any (v : Value) (L : List Rl) (s t u : List UInt8) (r : Int) (w : World) (he : ErrOk w) (h : RlAt w v L) : Calls Tryz.prog 13 #[v, .string ⟨s.toArray⟩, .string ⟨t.toArray⟩, .string ⟨u.toArray⟩, .int .i64 r] w (DepPost (fnI (frA L s t u r)) w) := by
  have HCk := Lib.hid (acheck_any v L w he h)
  obtain ⟨a, c, rfl, _⟩ := id h
  have HA := Lib.hid h
  have HE := Lib.hid he
  clear h he
  obtain ⟨n, hn⟩ : ∃ n, L.length = n := ⟨_, rfl⟩
  have HL := Lib.hid hn
  rw [hn] at HCk ⊢
  obtain ⟨m, hm⟩ : ∃ m, ckA L = m := ⟨_, rfl⟩
  rw [hm] at HCk
  have HLo := Lib.hid (fun x w' => show Calls Tryz.prog 32 #[.string ⟨(x : List UInt8).toArray⟩] w' (StrPost (lowL x) w') from lower_any ⟨x.toArray⟩ w')
  by_cases h0 : m ≠ 0
  · have H := Lib.hid (show fnI (frA L s t u r) = -1 by rw [fr_none (by rw [hm]; exact h0)]; rfl)
    have q : ((m : Int) != 0) = true := by simp; omega
    clear hm h0 hn
    go_enter Tryz.func13, Tryz.ntmps13
    go_wp2
    go_step3
    go_wp2_with fail
    refine HCk.out.mono ?_
    rintro e w1 ⟨rfl, hb⟩
    have HB := Lib.hid hb
    clear hb
    go_wp2
    try rw [Exit.noGoto_ret]
    go_ret
    exact depPost_mk H.out HB.out
  have h0 : m = 0 := by omega
  subst h0
  have hn256 : n ≤ 256 := by
    by_cases h : 256 < n
    · have := ckA_long (l := L) (by omega); omega
    · omega
  have HZ := Lib.hid hm
  have HN0 := Lib.hid (fun h => show fnI (frA L s t u r) = -1 by rw [fr_no h]; rfl)
  have HN1 := Lib.hid (fun k hk h1 h2 => show fnI (frA L s t u r) = ((k : Nat) : Int) by rw [fr_at hm k hk h1 h2]; rfl)
  clear hm hn
  go_enter Tryz.func13, Tryz.ntmps13
  go_wp2
  go_step3
  go_wp2_with fail
  refine HCk.out.mono ?_
  rintro e w1 ⟨rfl, hb⟩
  have HB1 := Lib.hid hb
  clear hb
  go_wp2_with fail
  refine (HLo.out u _).mono ?_
  rintro e w2 ⟨rfl, hb⟩
  have HB2 := Lib.hid (HB1.out.trans (hb.mono HB1.out.size))
  clear hb
  go_wp2
  go_step3
  go_wp2
  go_loopw [11, 21] (fun fv v wr => ∃ k : Nat, k ≤ n ∧ v = .int .i64 (k : Nat) ∧ fv = .int .i64 (-1) ∧ Below w.heap.size w wr ∧ ∀ j (hj : j < L.length), j < k → fitA s t u r L[j] = false) (fun _ v _ => n - (intOf v).toNat)
  case atStart => exact ⟨0, by omega, rfl, rfl, HB2.out, fun j _ h => by omega⟩
  case round =>
    obtain ⟨k, hk, rfl, rfl, hb, hall⟩ := hrel
    by_cases hlt : k < n
    · have hkl : (k : Int) < (n : Int) := by omega
      have hkL : k < L.length := by rw [HL.out]; exact hlt
      have hA2 := rlAt_below HA.out hb
      rw [HL.out] at hA2
      obtain ⟨g, o, rfl, hg, c0, c1, c2, c3, c4⟩ := rlAt_five hA2 k hkL
      have HNf := Lib.hid (fun hq => nofit hall hkL hq)
      have HYf := Lib.hid (fun hq => HN1.out k hkL hq hall)
      obtain ⟨⟨s0, s1, s2, s3, s4⟩, hr⟩ : ∃ x, L[k] = x := ⟨_, rfl⟩
      rw [hr] at c0 c1 c2 c3 c4 HNf HYf
      dsimp only at c0 c1 c2 c3 c4
      have HX := Lib.hid hb
      have HF := Lib.hid (fit_low s t u s0 s1 s2 r s3 s4)
      have HU := Lib.hid (fun w' (hb : Below w.heap.size w w') => under_any t s1 w' (errOk_below HE.out hb))
      have HC0 := Lib.hid (covers_any s0 s)
      have HC2 := Lib.hid (covers_any (lowL s2) (lowL u))
      obtain ⟨b0, e0⟩ : ∃ x, (s0 == [42] || s0 == s) = x := ⟨_, rfl⟩
      obtain ⟨b1, e1⟩ : ∃ x, undL t s1 = x := ⟨_, rfl⟩
      obtain ⟨b2, e2⟩ : ∃ x, (lowL s2 == [42] || lowL s2 == lowL u) = x := ⟨_, rfl⟩
      rw [e0] at HC0 HF
      rw [e1] at HU HF
      rw [e2] at HC2 HF
      have hways : (s3 == r) = false ∨ ((s3 == r) = true ∧ b0 = false) ∨ ((s3 == r) = true ∧ b0 = true ∧ b2 = false) ∨ ((s3 == r) = true ∧ b0 = true ∧ b2 = true ∧ b1 = false) ∨ ((s3 == r) = true ∧ b0 = true ∧ b2 = true ∧ b1 = true) := by
        cases (s3 == r) <;> cases b0 <;> cases b1 <;> cases b2 <;> simp
      have hbx : (wr.alloc (.cells #[.string ⟨s0.toArray⟩, .string ⟨s1.toArray⟩, .string ⟨s2.toArray⟩, .int .i64 s3, .bool s4] 34)).heap[wr.heap.size]? = some (.cells #[.string ⟨s0.toArray⟩, .string ⟨s1.toArray⟩, .string ⟨s2.toArray⟩, .int .i64 s3, .bool s4] 34 (0, 0)) := heap_alloc_new wr _
      obtain ⟨W, hW⟩ : ∃ W, wr.alloc (.cells #[.string ⟨s0.toArray⟩, .string ⟨s1.toArray⟩, .string ⟨s2.toArray⟩, .int .i64 s3, .bool s4] 34) = W := ⟨_, rfl⟩
      rw [hW] at hbx
      have hbW : Below w.heap.size w W := by rw [← hW]; exact hb.alloc hb.size _
      have HWs := Lib.hid (And.intro hbx hbW)
      have d0 := obj_cell hbx 0 _ rfl
      have d1 := obj_cell hbx 1 _ rfl
      have d2 := obj_cell hbx 2 _ rfl
      have d3 := obj_cell hbx 3 _ rfl
      clear hb hall hA2 hr e0 e1 e2 hbx hbW
      rcases hways with p1 | ⟨p1, rfl⟩ | ⟨p1, rfl, rfl⟩ | ⟨p1, rfl, rfl, rfl⟩ | ⟨p1, rfl, rfl, rfl⟩
      · have q1 : (s3 != r) = true := by simp [bne, p1]
        have HG := Lib.hid (HNf.out (by rw [HF.out, p1]; rfl))
        clear p1
        go_wp2
        exact ⟨⟨k + 1, by omega, by go_num, rfl, HWs.out.2, HG.out⟩, by simp [intOf]; omega⟩
      all_goals
        have q1 : (s3 != r) = false := by simp [bne, p1]
      · have HG := Lib.hid (HNf.out (by rw [HF.out, p1]; rfl))
        clear p1
        go_wp2_with fail
        refine (HC0.out _).mono ?_
        rintro e w3 ⟨rfl, rfl⟩
        go_wp2
        exact ⟨⟨k + 1, by omega, by go_num, rfl, HWs.out.2, HG.out⟩, by simp [intOf]; omega⟩
      all_goals
        go_wp2_with fail
        refine (HC0.out _).mono ?_
        rintro e w3 ⟨rfl, h3⟩
        obtain rfl := h3.symm
        go_wp2_with fail
        refine (HLo.out s2 _).mono ?_
        rintro e w4 ⟨rfl, hb4⟩
        have d1 := (hb4.cell (p := ⟨wr.heap.size, _, none⟩) (obj_lt HWs.out.1)).trans d1
        have HB4 := Lib.hid (HWs.out.2.trans (hb4.mono HWs.out.2.size))
        clear hb4
        go_wp2_with fail
        refine (HC2.out _).mono ?_
        rintro e w5 ⟨rfl, h3⟩
        obtain rfl := h3.symm
      · have HG := Lib.hid (HNf.out (by rw [HF.out, p1]; cases b1 <;> rfl))
        clear p1
        go_wp2
        exact ⟨⟨k + 1, by omega, by go_num, rfl, HB4.out, HG.out⟩, by simp [intOf]; omega⟩
      all_goals
        go_wp2_with fail
        refine (HU.out _ (by first | exact HB4.out | exact HB4.out.drew)).mono ?_
        rintro e w6 ⟨rfl, hb6⟩
        have HB6 := Lib.hid (HB4.out.trans (hb6.mono HB4.out.size))
        clear hb6
      · have HG := Lib.hid (HNf.out (by rw [HF.out, p1]; rfl))
        clear p1
        go_wp2
        exact ⟨⟨k + 1, by omega, by go_num, rfl, HB6.out, HG.out⟩, by simp [intOf]; omega⟩
      · have HG := Lib.hid (HYf.out (by rw [HF.out, p1]; rfl))
        clear p1
        go_wp2
        try rw [Exit.noGoto_ret]
        go_ret
        exact depPost_mk HG.out HB6.out
    · obtain rfl : k = n := by omega
      have H := Lib.hid (And.intro hb (HN0.out (fun j hj => hall j hj (by rw [← HL.out]; exact hj))))
      clear hb hall
      go_wp2
      try rw [Exit.noGoto_ret]
      go_ret
      exact depPost_mk H.out.2 H.out.1
set_option maxHeartbeats 3200000 in
set_option maxRecDepth 100000 in
theorem allowed_any (v : Value) (L : List Rl) (s t u : List UInt8) (r : Int) (w : World) (he : ErrOk w) (h : RlAt w v L) : Calls Tryz.prog 15 #[v, .string ⟨s.toArray⟩, .string ⟨t.toArray⟩, .string ⟨u.toArray⟩, .int .i64 r] w (BoolPost (alA L s t u r) w) := by
  have HC := Lib.hid (afirst_any v L s t u r w he h)
  obtain ⟨a, c, rfl, _⟩ := id h
  have HA := Lib.hid h
  clear h he
  cases hf : frA L s t u r with
  | none =>
    have H := Lib.hid (al_no hf)
    rw [hf, fn_none] at HC
    clear hf
    go_enter Tryz.func15, Tryz.ntmps15
    go_wp2_with fail
    refine HC.out.mono ?_
    rintro e w1 ⟨rfl, hb⟩
    have HB := Lib.hid hb
    clear hb
    go_wp2
    go_ret
    exact boolPost_mk H.out HB.out
  | some i =>
    have hi := fr_lt hf
    have H := Lib.hid (al_at hf hi)
    rw [hf, fn_some] at HC
    obtain ⟨n, hn⟩ : ∃ n, L.length = n := ⟨_, rfl⟩
    have HL := Lib.hid hn
    have HI := Lib.hid hi
    rw [hn] at hi HC ⊢
    have hil : (i : Int) < (n : Int) := by omega
    have q : ((i : Int) != -1) = true := by first | (simp; done) | (simp; omega)
    clear hf hn
    go_enter Tryz.func15, Tryz.ntmps15
    go_wp2_with fail
    refine HC.out.mono ?_
    rintro e w1 ⟨rfl, hb⟩
    have hA2 := rlAt_below HA.out hb
    obtain ⟨g, o, rfl, _, _, _, _, _, c4⟩ := rlAt_five hA2 i HI.out
    have HB := Lib.hid hb
    clear hb hA2
    go_wp2
    go_ret
    exact boolPost_mk H.out HB.out
end Go.Proofs.YtbihhdkmmlldnaaGreatDoor
