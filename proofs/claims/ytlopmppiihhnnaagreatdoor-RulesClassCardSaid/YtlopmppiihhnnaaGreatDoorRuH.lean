/- The code's Subs, for every value and all parts. -/
import Derived.Test.YtlopmppiihhnnaaGreatDoorRuG
namespace Go.Proofs.YtlopmppiihhnnaaGreatDoor
set_option linter.unusedSimpArgs false
set_option linter.unusedVariables false
open Go Go.RowKit Go.Proofs.BerK Go.Proofs.MemK Go.Proofs.UtfK

theorem rucutp_any (s p : List UInt8) (w : World) : Calls Tryz.prog 35 #[.string ⟨s.toArray⟩, .string ⟨p.toArray⟩] w fun en w' => en = .returned (.tuple #[.string ⟨(Lib.trimPrefix s p).toArray⟩, .bool (Lib.hasPrefix s p)]) ∧ w' = w :=
  Any.strings_CutPrefix Tryz.cutPre8 ⟨s.toArray⟩ ⟨p.toArray⟩ w
theorem rucuts_any (s p : List UInt8) (w : World) (hs : s.length ≤ 9223372036854775807) : Calls Tryz.prog 51 #[.string ⟨s.toArray⟩, .string ⟨p.toArray⟩] w fun en w' => en = .returned (.tuple #[.string ⟨(Lib.trimSuffix s p).toArray⟩, .bool (Lib.hasSuffix s p)]) ∧ w' = w :=
  Any.strings_CutSuffix Tryz.cutSuf8 ⟨s.toArray⟩ ⟨p.toArray⟩ w hs
def CutR (c : List UInt8 × List UInt8 × Bool) (w : World) (en : Ending) (w' : World) : Prop := en = .returned (.tuple #[.string ⟨c.1.toArray⟩, .string ⟨c.2.1.toArray⟩, .bool c.2.2]) ∧ Below w.heap.size w w'
theorem rucut_any (s p : List UInt8) (w : World) (hs : s.length < 4294967281) (hm : MlOk w) : Calls Tryz.prog 52 #[.string ⟨s.toArray⟩, .string ⟨p.toArray⟩] w (CutR (Lib.cut s p) w) := by
  obtain ⟨m, hm⟩ := hm
  exact (Any.strings_Cut Tryz.cut8 ⟨s.toArray⟩ ⟨p.toArray⟩ m w hs hm).mono fun en w' ⟨h1, n, h2⟩ => ⟨h1, by rw [h2]; exact below_dn (Below.refl _ _) n⟩
theorem cut_len (s p : List UInt8) : (Lib.cut s p).2.1.length ≤ s.length := by
  unfold Lib.cut
  split
  · simp
  · simp
theorem mid_cons {ms : List (List UInt8)} {i : Nat} (hi : i < ms.length) (x : List UInt8) : midL (ms.drop i) x = ((Lib.cut x ms[i]).2.2 && midL (ms.drop (i + 1)) (Lib.cut x ms[i]).2.1) := by
  rw [List.drop_eq_getElem_cons hi, midL]
theorem mid_done (ms : List (List UInt8)) (x : List UInt8) : midL (ms.drop ms.length) x = true := by rw [List.drop_length, midL]
theorem edge_ways (s h t : List UInt8) : (Lib.hasPrefix s h = false ∧ Lib.trimPrefix s h = s ∧ edgeL s h t = false) ∨
    (Lib.hasPrefix s h = true ∧ Lib.trimPrefix s h = s.drop h.length ∧ Lib.hasSuffix (s.drop h.length) t = false ∧ edgeL s h t = false) ∨
    (Lib.hasPrefix s h = true ∧ Lib.trimPrefix s h = s.drop h.length ∧ Lib.hasSuffix (s.drop h.length) t = true ∧ Lib.trimSuffix (s.drop h.length) t = restL s h t ∧ edgeL s h t = true) := by
  unfold edgeL
  cases h1 : Lib.hasPrefix s h
  · exact .inl ⟨rfl, by simp [Lib.trimPrefix, h1], rfl⟩
  · cases h2 : Lib.hasSuffix (s.drop h.length) t
    · exact .inr (.inl ⟨rfl, by simp [Lib.trimPrefix, h1], rfl, rfl⟩)
    · exact .inr (.inr ⟨rfl, by simp [Lib.trimPrefix, h1], rfl, by simp [Lib.trimSuffix, h2, restL], rfl⟩)
theorem has_false {s h t : List UInt8} {ms : List (List UInt8)} (he : edgeL s h t = false) : hasL s h ms t = false := by unfold hasL; rw [he]; rfl
theorem has_true {s h t : List UInt8} {ms : List (List UInt8)} (he : edgeL s h t = true) : hasL s h ms t = midL ms (restL s h t) := by unfold hasL; rw [he]; rfl
set_option maxHeartbeats 3200000 in
set_option maxRecDepth 100000 in
theorem ruhas_any (s h t : List UInt8) (ms : List (List UInt8)) (a : Option Addr) (c : Nat) (w : World) (hs : s.length ≤ 4096) (hl : ms.length ≤ 1000) (hm : TxR w (.slice a ms.length c) ms) (hk : MlOk w) :
    Calls Tryz.prog 31 #[.string ⟨s.toArray⟩, .agg #[.string ⟨h.toArray⟩, .slice a ms.length c, .string ⟨t.toArray⟩]] w (BoolPost (hasL s h ms t) w) := by
  obtain ⟨a', c', hv, hcells⟩ := hm
  injection hv with hv1 _ hv3
  subst hv1 hv3
  have HM := Lib.hid hcells
  have HK := Lib.hid hk
  have HP := Lib.hid (fun w => rucutp_any s h w)
  have HS := Lib.hid (fun x w hx => rucuts_any x t w hx)
  have hb0 : Below w.heap.size w (w.alloc (.cells #[.string ⟨h.toArray⟩, .slice a ms.length c, .string ⟨t.toArray⟩] 25)) := (Below.refl _ w).alloc (Nat.le_refl _) _
  have HB0 := Lib.hid hb0
  have hd : (s.drop h.length).length ≤ 4096 := by rw [List.length_drop]; omega
  rcases edge_ways s h t with ⟨e1, e2, e3⟩ | ⟨e1, e2, e3, e4⟩ | ⟨e1, e2, e3, e4, e5⟩
  · rw [e1, e2] at HP
    have HS1 := Lib.hid (fun w => HS.out s w (by omega))
    have HR := Lib.hid (has_false (ms := ms) e3)
    obtain ⟨b, hb⟩ : ∃ b, Lib.hasSuffix s t = b := ⟨_, rfl⟩
    obtain ⟨y, hy⟩ : ∃ y, Lib.trimSuffix s t = y := ⟨_, rfl⟩
    rw [hb, hy] at HS1
    clear hcells hk hb0 hd e1 e2 e3 hb hy HS
    go_enter Tryz.func31, Tryz.ntmps31
    go_wp2_with fail
    refine (HP.out _).mono ?_
    rintro e w1 ⟨rfl, hw⟩
    obtain rfl := hw.symm
    go_wp2_with fail
    refine (HS1.out _).mono ?_
    rintro e w1 ⟨rfl, hw⟩
    obtain rfl := hw.symm
    go_wp2
    go_ret
    exact boolPost_mk HR.out HB0.out
  · rw [e1, e2] at HP
    obtain ⟨x, hx⟩ : ∃ x, s.drop h.length = x := ⟨_, rfl⟩
    rw [hx] at HP hd e3
    have HS1 := Lib.hid (fun w => HS.out x w (by omega))
    have HR := Lib.hid (has_false (ms := ms) e4)
    obtain ⟨y, hy⟩ : ∃ y, Lib.trimSuffix x t = y := ⟨_, rfl⟩
    rw [e3, hy] at HS1
    clear hcells hk hb0 hd e1 e2 e3 e4 hx hy HS
    go_enter Tryz.func31, Tryz.ntmps31
    go_wp2_with fail
    refine (HP.out _).mono ?_
    rintro e w1 ⟨rfl, hw⟩
    obtain rfl := hw.symm
    go_wp2_with fail
    refine (HS1.out _).mono ?_
    rintro e w1 ⟨rfl, hw⟩
    obtain rfl := hw.symm
    go_wp2
    go_ret
    exact boolPost_mk HR.out HB0.out
  · rw [e1, e2] at HP
    have hrl := rest_len s h t
    obtain ⟨x, hx⟩ : ∃ x, s.drop h.length = x := ⟨_, rfl⟩
    rw [hx] at HP hd e3 e4
    have HS1 := Lib.hid (fun w => HS.out x w (by omega))
    have hR := has_true (ms := ms) e5
    obtain ⟨y, hy⟩ : ∃ y, restL s h t = y := ⟨_, rfl⟩
    rw [hy] at e4 hR hrl
    rw [e3, e4] at HS1
    obtain ⟨R, hRR⟩ : ∃ R, hasL s h ms t = R := ⟨_, rfl⟩
    rw [hRR] at hR ⊢
    have HR := Lib.hid hR
    have HMC := Lib.hid (fun i hi x => mid_cons (ms := ms) (i := i) hi x)
    have HMD := Lib.hid (mid_done ms)
    have hy4 : y.length ≤ 4096 := by omega
    obtain ⟨n, hn⟩ : ∃ n, ms.length = n := ⟨_, rfl⟩
    have HN := Lib.hid hn
    rw [hn] at HB0 HMD hl ⊢
    clear hcells hk hb0 hd e1 e2 e3 e4 e5 hx hy hrl hRR hR HS hn
    go_enter Tryz.func31, Tryz.ntmps31
    go_wp2_with fail
    refine (HP.out _).mono ?_
    rintro e w1 ⟨rfl, hw⟩
    obtain rfl := hw.symm
    go_wp2_with fail
    refine (HS1.out _).mono ?_
    rintro e w1 ⟨rfl, hw⟩
    obtain rfl := hw.symm
    go_wp2
    go_loopw [0, 35] (fun v0 v wr => ∃ (i : Nat) (z : List UInt8), i ≤ n ∧ v = .int .i64 (i : Nat) ∧ v0 = .string ⟨z.toArray⟩ ∧ z.length ≤ 4096 ∧ R = midL (ms.drop i) z ∧ Below w.heap.size w wr) (fun _ v _ => n - (intOf v).toNat)
    case atStart => exact ⟨0, y, by omega, rfl, rfl, hy4, HR.out, HB0.out⟩
    case round =>
      obtain ⟨i, z, hi, rfl, rfl, hz, hinv, hb⟩ := hrel
      by_cases hlt : i < n
      · have hil : (i : Int) < (n : Int) := by omega
        have hims : i < ms.length := by rw [HN.out]; exact hlt
        obtain ⟨g, o, rfl, hg, e1w⟩ := HM.out i hims
        have e1 := (hb.cell (p := ⟨g, o + i, none⟩) hg).trans e1w
        rw [HMC.out i hims] at hinv
        obtain ⟨m, hmm⟩ : ∃ m, ms[i] = m := ⟨_, rfl⟩
        rw [hmm] at e1 hinv
        have HC := Lib.hid (rucut_any z m wr (by omega) (mlOk_below HK.out hb))
        have hcl := cut_len z m
        obtain ⟨C, hC⟩ : ∃ C, Lib.cut z m = C := ⟨_, rfl⟩
        rw [hC] at HC hcl hinv
        obtain ⟨c1, c2, c3⟩ := C
        have hcl2 : c2.length ≤ 4096 := Nat.le_trans hcl hz
        have HB := Lib.hid hb
        cases c3
        · have HI := Lib.hid (show R = false by rw [hinv]; rfl)
          clear hinv hb hcl e1w hmm hC
          go_wp2_with fail
          refine HC.out.mono ?_
          rintro e w2 ⟨rfl, hb2⟩
          have B2 := Lib.hid (HB.out.trans (hb2.mono HB.out.size))
          clear hb2
          go_wp2
          go_ret
          exact boolPost_mk HI.out B2.out
        · have HI := Lib.hid (show R = midL (ms.drop (i + 1)) c2 by rw [hinv]; rfl)
          clear hinv hb hcl e1w hmm hC
          go_wp2_with fail
          refine HC.out.mono ?_
          rintro e w2 ⟨rfl, hb2⟩
          have B2 := Lib.hid (HB.out.trans (hb2.mono HB.out.size))
          clear hb2
          go_wp2
          exact ⟨⟨i + 1, c2, by omega, by go_num, rfl, hcl2, HI.out, B2.out⟩, by simp [intOf]; omega⟩
      · obtain rfl : i = n := by omega
        have HI := Lib.hid (show R = true by rw [hinv, HMD.out])
        have HB := Lib.hid hb
        clear hinv hb
        go_wp2
        go_ret
        exact boolPost_mk HI.out HB.out
end Go.Proofs.YtlopmppiihhnnaaGreatDoor
