/- The document's Check and Depth tell what the plain functions ck and dpth tell, for every text that is no longer than a text may be and every number of levels. -/
import Derived.Test.YtkjmgpannjnlfaaTreeC
import Derived.StillTailTactics
import Derived.Deep.RegionHeld3
namespace Go.Proofs.Ytkjmgpannjnlfaa
open Go.RowKit Go.Proofs.BerM Go.Proofs.BerK

/-- The document's Check's answer. -/
def CkPost (e : Nat) (w : World) (en : Ending) (w' : World) : Prop := en = .returned (.int .i64 (e : Nat)) ∧ Below w.heap.size w w'
theorem ckp_mk {e e' : Nat} {w w' : World} (h : e = e') (hb : Below w.heap.size w w') : CkPost e w (.returned (.int .i64 (e' : Nat))) w' := by
  subst h; exact ⟨rfl, hb⟩
theorem ck_err {m : Nat} {l : List UInt8} {t sz e : Nat} {b : List UInt8} (hr : rd l = (t, b, sz, e)) (he : e ≠ 0) : ck (m + 1) l = e := by
  rw [ck_succ, hr, if_pos he]
theorem ck_form {m : Nat} {l : List UInt8} {t sz : Nat} {b : List UInt8} (hr : rd l = (t, b, sz, 0)) (hs : sz < l.length) : ck (m + 1) l = 5 := by
  rw [ck_succ, hr, if_neg (by simp), if_pos hs]
theorem ck_plain {m : Nat} {l : List UInt8} {t sz : Nat} {b : List UInt8} (hr : rd l = (t, b, sz, 0)) (hs : ¬ sz < l.length) (ht : t / 32 % 2 = 0) : ck (m + 1) l = 0 := by
  rw [ck_succ, hr, if_neg (by simp), if_neg hs, if_pos ht]
theorem ck_parts {m : Nat} {l : List UInt8} {t sz e : Nat} {b : List UInt8} {P : List TB} (hr : rd l = (t, b, sz, 0)) (hs : ¬ sz < l.length) (ht : ¬ t / 32 % 2 = 0) (ha : al b = (P, e)) : ck (m + 1) l = if e ≠ 0 then e else ckL (ck m) P := by
  rw [ck_succ, hr, if_neg (by simp), if_neg hs, if_neg ht]
  simp only [ha]
theorem ckL_err {g : List UInt8 → Nat} {t : Nat} {b : List UInt8} {L : List TB} {e : Nat} (h : g (putL t b) = e) (he : e ≠ 0) : ckL g ((t, b) :: L) = e := by
  rw [ckL, h, if_pos he]
theorem ckL_go {g : List UInt8 → Nat} {t : Nat} {b : List UInt8} {L : List TB} (h : g (putL t b) = 0) : ckL g ((t, b) :: L) = ckL g L := by
  rw [ckL, h, if_neg (by simp)]
theorem putL_len (t : Int) (l : List UInt8) (h : l.length ≤ 65536) : (putL t l).length ≤ 65542 := by
  unfold putL; split
  · have := beF_len_le 4 l.length (by omega)
    simp only [List.length_cons, List.length_append]
    unfold lenB; split
    · simp only [List.length_cons, List.length_nil]; omega
    · simp only [List.length_cons]; omega
  · simp

set_option maxHeartbeats 400000 in
set_option maxRecDepth 100000 in
theorem rck_none (s : ByteArray) (q : Int) (w : World) (h : q < 1) :
    Calls Try.prog 8 #[.string s, .int .i64 q] w (CkPost 7 w) := by
  go_enter Try.func8, Try.ntmps8
  go_wp2
  go_ret
  exact ckp_mk rfl (Below.refl _ _)

set_option maxHeartbeats 1600000 in
set_option maxRecDepth 100000 in
theorem rck_le (s : ByteArray) (q : Int) (w : World) (hm : s.size ≤ maxLen) (h1 : 1 ≤ q) (h64 : q ≤ 64) (m : Nat) (ih : ∀ (s : ByteArray) (w : World), s.size ≤ maxLen → Calls Try.prog 8 #[.string s, .int .i64 (q - 1)] w (CkPost (ck m s.data.toList) w)) :
    Calls Try.prog 8 #[.string s, .int .i64 q] w (CkPost (ck (m + 1) s.data.toList) w) := by
  have IH := Lib.hid ih
  clear ih
  obtain ⟨t, b, sz, e, hr⟩ : ∃ t b sz e, rd s.data.toList = (t, b, sz, e) := ⟨_, _, _, _, rfl⟩
  have HC := Lib.hid fun w => rrd_any s w hm t sz e b hr
  have HM := Lib.hid hm
  unfold maxLen at hm
  by_cases he : e = 0
  · subst he
    have htb : t ≤ 254 := good_t (rd_good _ t sz b hr).1
    by_cases hs : sz < s.size
    · have HV := Lib.hid (ck_form (m := m) hr (by rw [len_list]; exact hs))
      clear hr
      go_enter Try.func8, Try.ntmps8
      go_wp2_with fail
      refine (HC.out _).mono ?_
      rintro en w1 ⟨rfl, hb1⟩
      go_wp2
      go_ret
      exact ckp_mk HV.out (hb1.alloc hb1.size _)
    · have hs' : ¬ sz < s.data.toList.length := by rw [len_list]; exact hs
      by_cases ht : t / 32 % 2 = 0
      · have HV := Lib.hid (ck_plain (m := m) hr hs' ht)
        have hq : ((t : Int) / 32 % 2 == 0) = true := beq_iff_eq.2 (by omega)
        clear hr ht
        go_enter Try.func8, Try.ntmps8
        go_wp2_with fail
        refine (HC.out _).mono ?_
        rintro en w1 ⟨rfl, hb1⟩
        go_wp2
        go_ret
        exact ckp_mk HV.out (hb1.alloc hb1.size _)
      · obtain ⟨P, e2, ha⟩ : ∃ P e2, al b = (P, e2) := ⟨_, _, rfl⟩
        have HV := Lib.hid (ck_parts (m := m) hr hs' ht ha)
        have hgb := (rd_good _ t sz b hr).1.2
        have hgl := al_good b
        rw [ha] at hgl
        have HGL := Lib.hid hgl
        have HA := Lib.hid ha
        have hq : ((t : Int) / 32 % 2 == 0) = false := beq_eq_false_iff_ne.2 (by omega)
        clear hr ht hs' hgl ha
        go_enter Try.func8, Try.ntmps8
        go_wp2_with fail
        refine (HC.out _).mono ?_
        rintro en w1 ⟨rfl, hb1⟩
        go_wp2_with fail
        refine (ral_any ⟨b.toArray⟩ _ (by unfold maxLen; show b.length ≤ _; have hgb' : b.length ≤ 65536 := hgb; omega)).mono ?_
        rintro en w2 ⟨v, rfl, hown, hb2⟩
        have hAl : al (⟨b.toArray⟩ : ByteArray).data.toList = (P, e2) := HA.out
        rw [hAl] at hown ⊢
        have hra := rowAt_owns hown
        have hb02 : Below w.heap.size w w2 := (hb1.alloc hb1.size _).trans (hb2.mono (by have := hb1.size; simp; omega))
        clear hAl hown hb1 hb2
        by_cases he2 : e2 = 0
        · subst he2
          have hv := HV.out
          rw [if_neg (by simp)] at hv
          have HV2 := Lib.hid hv
          clear hv HV
          rcases hra with ⟨rfl, a, c, rfl⟩ | ⟨h0, g, c, rfl, hg, hq2⟩
          · go_wp2
            go_loop [9] (fun v9 => v9 = .int .i64 0) (fun _ => 0)
            case atStart => rfl
            case round =>
              obtain rfl := hrel
              go_wp2
              go_ret
              exact ckp_mk HV2.out hb02
          · have HQ := Lib.hid hq2
            have hPl : P.length ≤ 1024 := HGL.out.2
            clear hq2
            go_wp2
            go_loopw [9] (fun v9 wr => ∃ i : Nat, v9 = .int .i64 i ∧ i ≤ P.length ∧ ckL (ck m) (P.drop i) = ckL (ck m) P ∧ Below w2.heap.size w2 wr) (fun v9 _ => P.length - (intOf v9).toNat)
            case atStart => exact ⟨0, rfl, Nat.zero_le _, rfl, Below.refl _ _⟩
            case round =>
              obtain ⟨i, rfl, hi, hinv, hbel⟩ := hrel
              by_cases hlt : i < P.length
              · rw [drop_at P i hlt] at hinv
                obtain ⟨hq0, hq1⟩ := HQ.out i hlt
                have hgx := HGL.out.1 P[i] (List.getElem_mem hlt)
                obtain ⟨t', b', hx⟩ : ∃ t' b', P[i] = (t', b') := ⟨_, _, rfl⟩
                rw [hx] at hq0 hq1 hinv hgx
                have hc0 := (hbel.cell (p := ⟨g, i * 2, none⟩) hg).trans hq0
                have hc1 := (hbel.cell (p := ⟨g, i * 2 + 1, none⟩) hg).trans hq1
                have hpl := putL_len t' b' hgx.2
                have HPut := Lib.hid fun w => rput_c t' ⟨b'.toArray⟩ (by unfold maxLen; show b'.length ≤ _; have := hgx.2; simp at this; omega) (putL t' b') 0 rfl (putE_ok hgx.1 hgx.2) w
                have HI := Lib.hid hinv
                have HPL := Lib.hid hpl
                clear hinv hgx hx hq0 hq1 hpl
                have hi0 : (0 : Int) ≤ i := by omega
                have hi1 : (i : Int) < (P.length : Int) := by omega
                go_wp2
                have hgw : g < wr.heap.size := Nat.lt_of_lt_of_le hg hbel.size
                go_region_held3 (fun w' => w'.cell? ⟨g, i * 2, none⟩ = some (.int .i64 (t' : Int)) ∧ w'.cell? ⟨g, i * 2 + 1, none⟩ = some (.string ⟨b'.toArray⟩)) (first | exact ⟨hc0, hc1⟩ | exact ⟨hd0, hd1⟩ | go_keep)
                  (first | (go_at_call 19; refine (HPut.out _).mono ?_; rintro en w3 ⟨rfl, hb3⟩; have hd0 := (hb3.cell (p := ⟨g, i * 2, none⟩) (by simpa using hgw)).trans hc0; have hd1 := (hb3.cell (p := ⟨g, i * 2 + 1, none⟩) (by simpa using hgw)).trans hc1))
                have hb3' : Below w2.heap.size w2 w3 := hbel.drew.trans (hb3.mono (by simpa using hbel.size))
                clear hb3 hc0 hc1 hd0 hd1
                obtain ⟨e3, h3⟩ : ∃ e3, ck m (putL t' b') = e3 := ⟨_, rfl⟩
                have H3 := Lib.hid h3
                clear h3
                go_wp2_with fail
                refine (IH.out ⟨(putL t' b').toArray⟩ _ (by unfold maxLen; show (putL t' b').length ≤ _; have := HPL.out; omega)).mono ?_
                rintro en w4 ⟨rfl, hb4⟩
                have hck : ck m (⟨(putL t' b').toArray⟩ : ByteArray).data.toList = e3 := H3.out
                rw [hck]
                have hb4' : Below w2.heap.size w2 w4 := hb3'.trans (hb4.mono hb3'.size)
                clear hck hb4 hb3' hbel
                by_cases he3 : e3 = 0
                · subst he3
                  have HN := Lib.hid ((ckL_go H3.out).symm.trans HI.out)
                  go_wp2
                  go_roundw
                  case rel => exact ⟨i + 1, by go_num, by omega, HN.out, hb4'⟩
                  case measure => simp [intOf]; omega
                · have HN := Lib.hid (HV2.out.trans (HI.out.symm.trans (ckL_err H3.out he3)))
                  have hq3 : ((e3 : Int) != 0) = true := by rw [bne_iff_ne]; omega
                  go_wp2
                  go_ret
                  exact ckp_mk HN.out (hb02.trans (hb4'.mono hb02.size))
              · have hi' : i = P.length := by omega
                have HN : Hid (ck (m + 1) s.data.toList = 0) := by unfold Hid; rw [HV2.out, ← hinv, hi', List.drop_length]; rfl
                clear hinv
                go_wp2
                go_ret
                exact ckp_mk HN.out (hb02.trans (hbel.mono hb02.size))
        · have hv := HV.out
          rw [if_pos he2] at hv
          have HV2 := Lib.hid hv
          have hq2 : ((e2 : Int) != 0) = true := by rw [bne_iff_ne]; omega
          clear hv HV
          go_wp2
          go_ret
          exact ckp_mk HV2.out hb02
  · have HV := Lib.hid (ck_err (m := m) hr he)
    have hq : ((e : Int) != 0) = true := by rw [bne_iff_ne]; omega
    clear hr
    go_enter Try.func8, Try.ntmps8
    go_wp2_with fail
    refine (HC.out _).mono ?_
    rintro en w1 ⟨rfl, hb1⟩
    go_wp2
    go_ret
    exact ckp_mk HV.out (hb1.alloc hb1.size _)

set_option maxHeartbeats 1600000 in
set_option maxRecDepth 100000 in
theorem rck_gt (s : ByteArray) (q : Int) (w : World) (hm : s.size ≤ maxLen) (h64 : 64 < q) (m : Nat) (ih : ∀ (s : ByteArray) (w : World), s.size ≤ maxLen → Calls Try.prog 8 #[.string s, .int .i64 (63)] w (CkPost (ck m s.data.toList) w)) :
    Calls Try.prog 8 #[.string s, .int .i64 q] w (CkPost (ck (m + 1) s.data.toList) w) := by
  have IH := Lib.hid ih
  clear ih
  obtain ⟨t, b, sz, e, hr⟩ : ∃ t b sz e, rd s.data.toList = (t, b, sz, e) := ⟨_, _, _, _, rfl⟩
  have HC := Lib.hid fun w => rrd_any s w hm t sz e b hr
  have HM := Lib.hid hm
  unfold maxLen at hm
  by_cases he : e = 0
  · subst he
    have htb : t ≤ 254 := good_t (rd_good _ t sz b hr).1
    by_cases hs : sz < s.size
    · have HV := Lib.hid (ck_form (m := m) hr (by rw [len_list]; exact hs))
      clear hr
      go_enter Try.func8, Try.ntmps8
      go_wp2_with fail
      refine (HC.out _).mono ?_
      rintro en w1 ⟨rfl, hb1⟩
      go_wp2
      go_ret
      exact ckp_mk HV.out (hb1.alloc hb1.size _)
    · have hs' : ¬ sz < s.data.toList.length := by rw [len_list]; exact hs
      by_cases ht : t / 32 % 2 = 0
      · have HV := Lib.hid (ck_plain (m := m) hr hs' ht)
        have hq : ((t : Int) / 32 % 2 == 0) = true := beq_iff_eq.2 (by omega)
        clear hr ht
        go_enter Try.func8, Try.ntmps8
        go_wp2_with fail
        refine (HC.out _).mono ?_
        rintro en w1 ⟨rfl, hb1⟩
        go_wp2
        go_ret
        exact ckp_mk HV.out (hb1.alloc hb1.size _)
      · obtain ⟨P, e2, ha⟩ : ∃ P e2, al b = (P, e2) := ⟨_, _, rfl⟩
        have HV := Lib.hid (ck_parts (m := m) hr hs' ht ha)
        have hgb := (rd_good _ t sz b hr).1.2
        have hgl := al_good b
        rw [ha] at hgl
        have HGL := Lib.hid hgl
        have HA := Lib.hid ha
        have hq : ((t : Int) / 32 % 2 == 0) = false := beq_eq_false_iff_ne.2 (by omega)
        clear hr ht hs' hgl ha
        go_enter Try.func8, Try.ntmps8
        go_wp2_with fail
        refine (HC.out _).mono ?_
        rintro en w1 ⟨rfl, hb1⟩
        go_wp2_with fail
        refine (ral_any ⟨b.toArray⟩ _ (by unfold maxLen; show b.length ≤ _; have hgb' : b.length ≤ 65536 := hgb; omega)).mono ?_
        rintro en w2 ⟨v, rfl, hown, hb2⟩
        have hAl : al (⟨b.toArray⟩ : ByteArray).data.toList = (P, e2) := HA.out
        rw [hAl] at hown ⊢
        have hra := rowAt_owns hown
        have hb02 : Below w.heap.size w w2 := (hb1.alloc hb1.size _).trans (hb2.mono (by have := hb1.size; simp; omega))
        clear hAl hown hb1 hb2
        by_cases he2 : e2 = 0
        · subst he2
          have hv := HV.out
          rw [if_neg (by simp)] at hv
          have HV2 := Lib.hid hv
          clear hv HV
          rcases hra with ⟨rfl, a, c, rfl⟩ | ⟨h0, g, c, rfl, hg, hq2⟩
          · go_wp2
            go_loop [9] (fun v9 => v9 = .int .i64 0) (fun _ => 0)
            case atStart => rfl
            case round =>
              obtain rfl := hrel
              go_wp2
              go_ret
              exact ckp_mk HV2.out hb02
          · have HQ := Lib.hid hq2
            have hPl : P.length ≤ 1024 := HGL.out.2
            clear hq2
            go_wp2
            go_loopw [9] (fun v9 wr => ∃ i : Nat, v9 = .int .i64 i ∧ i ≤ P.length ∧ ckL (ck m) (P.drop i) = ckL (ck m) P ∧ Below w2.heap.size w2 wr) (fun v9 _ => P.length - (intOf v9).toNat)
            case atStart => exact ⟨0, rfl, Nat.zero_le _, rfl, Below.refl _ _⟩
            case round =>
              obtain ⟨i, rfl, hi, hinv, hbel⟩ := hrel
              by_cases hlt : i < P.length
              · rw [drop_at P i hlt] at hinv
                obtain ⟨hq0, hq1⟩ := HQ.out i hlt
                have hgx := HGL.out.1 P[i] (List.getElem_mem hlt)
                obtain ⟨t', b', hx⟩ : ∃ t' b', P[i] = (t', b') := ⟨_, _, rfl⟩
                rw [hx] at hq0 hq1 hinv hgx
                have hc0 := (hbel.cell (p := ⟨g, i * 2, none⟩) hg).trans hq0
                have hc1 := (hbel.cell (p := ⟨g, i * 2 + 1, none⟩) hg).trans hq1
                have hpl := putL_len t' b' hgx.2
                have HPut := Lib.hid fun w => rput_c t' ⟨b'.toArray⟩ (by unfold maxLen; show b'.length ≤ _; have := hgx.2; simp at this; omega) (putL t' b') 0 rfl (putE_ok hgx.1 hgx.2) w
                have HI := Lib.hid hinv
                have HPL := Lib.hid hpl
                clear hinv hgx hx hq0 hq1 hpl
                have hi0 : (0 : Int) ≤ i := by omega
                have hi1 : (i : Int) < (P.length : Int) := by omega
                go_wp2
                have hgw : g < wr.heap.size := Nat.lt_of_lt_of_le hg hbel.size
                go_region_held3 (fun w' => w'.cell? ⟨g, i * 2, none⟩ = some (.int .i64 (t' : Int)) ∧ w'.cell? ⟨g, i * 2 + 1, none⟩ = some (.string ⟨b'.toArray⟩)) (first | exact ⟨hc0, hc1⟩ | exact ⟨hd0, hd1⟩ | go_keep)
                  (first | (go_at_call 19; refine (HPut.out _).mono ?_; rintro en w3 ⟨rfl, hb3⟩; have hd0 := (hb3.cell (p := ⟨g, i * 2, none⟩) (by simpa using hgw)).trans hc0; have hd1 := (hb3.cell (p := ⟨g, i * 2 + 1, none⟩) (by simpa using hgw)).trans hc1))
                have hb3' : Below w2.heap.size w2 w3 := hbel.drew.trans (hb3.mono (by simpa using hbel.size))
                clear hb3 hc0 hc1 hd0 hd1
                obtain ⟨e3, h3⟩ : ∃ e3, ck m (putL t' b') = e3 := ⟨_, rfl⟩
                have H3 := Lib.hid h3
                clear h3
                go_wp2_with fail
                refine (IH.out ⟨(putL t' b').toArray⟩ _ (by unfold maxLen; show (putL t' b').length ≤ _; have := HPL.out; omega)).mono ?_
                rintro en w4 ⟨rfl, hb4⟩
                have hck : ck m (⟨(putL t' b').toArray⟩ : ByteArray).data.toList = e3 := H3.out
                rw [hck]
                have hb4' : Below w2.heap.size w2 w4 := hb3'.trans (hb4.mono hb3'.size)
                clear hck hb4 hb3' hbel
                by_cases he3 : e3 = 0
                · subst he3
                  have HN := Lib.hid ((ckL_go H3.out).symm.trans HI.out)
                  go_wp2
                  go_roundw
                  case rel => exact ⟨i + 1, by go_num, by omega, HN.out, hb4'⟩
                  case measure => simp [intOf]; omega
                · have HN := Lib.hid (HV2.out.trans (HI.out.symm.trans (ckL_err H3.out he3)))
                  have hq3 : ((e3 : Int) != 0) = true := by rw [bne_iff_ne]; omega
                  go_wp2
                  go_ret
                  exact ckp_mk HN.out (hb02.trans (hb4'.mono hb02.size))
              · have hi' : i = P.length := by omega
                have HN : Hid (ck (m + 1) s.data.toList = 0) := by unfold Hid; rw [HV2.out, ← hinv, hi', List.drop_length]; rfl
                clear hinv
                go_wp2
                go_ret
                exact ckp_mk HN.out (hb02.trans (hbel.mono hb02.size))
        · have hv := HV.out
          rw [if_pos he2] at hv
          have HV2 := Lib.hid hv
          have hq2 : ((e2 : Int) != 0) = true := by rw [bne_iff_ne]; omega
          clear hv HV
          go_wp2
          go_ret
          exact ckp_mk HV2.out hb02
  · have HV := Lib.hid (ck_err (m := m) hr he)
    have hq : ((e : Int) != 0) = true := by rw [bne_iff_ne]; omega
    clear hr
    go_enter Try.func8, Try.ntmps8
    go_wp2_with fail
    refine (HC.out _).mono ?_
    rintro en w1 ⟨rfl, hb1⟩
    go_wp2
    go_ret
    exact ckp_mk HV.out (hb1.alloc hb1.size _)

theorem rck_nat (m : Nat) (hm : m ≤ 64) : ∀ (s : ByteArray) (w : World), s.size ≤ maxLen → Calls Try.prog 8 #[.string s, .int .i64 m] w (CkPost (ck m s.data.toList) w) := by
  induction m with
  | zero => intro s w _; exact rck_none s _ w (by omega)
  | succ m ih =>
    intro s w hs
    refine rck_le s _ w hs (by omega) (by omega) m ?_
    rw [show (((m + 1 : Nat) : Int) - 1) = m by omega]
    exact ih (by omega)
theorem rck_any (s : ByteArray) (q : Int) (w : World) (hs : s.size ≤ maxLen) (e : Nat) (he : ck (lv q) s.data.toList = e) :
    Calls Try.prog 8 #[.string s, .int .i64 q] w (CkPost e w) := by
  rw [← he]
  by_cases h1 : 1 ≤ q
  · by_cases h64 : q ≤ 64
    · have := rck_nat (lv q) (lv_le q) s w hs
      rw [show ((lv q : Nat) : Int) = q by unfold lv; omega] at this
      exact this
    · rw [show lv q = 63 + 1 by unfold lv; omega]
      exact rck_gt s q w hs (by omega) 63 (rck_nat 63 (by omega))
  · rw [lv_lt (by omega)]
    exact rck_none s q w (by omega)

set_option maxHeartbeats 800000 in
set_option maxRecDepth 100000 in
theorem rdepth_any (s : ByteArray) (w : World) (hm : s.size ≤ maxLen) (d : Nat) (hd : dpth s.data.toList = d) :
    Calls Try.prog 10 #[.string s] w (CkPost d w) := by
  have hle := dpth_le s.data.toList
  have hck := ck_dpth s.data.toList
  rw [hd] at hle hck
  have HCK := Lib.hid hck
  have HM := Lib.hid hm
  clear hd hck hm
  go_enter Try.func10, Try.ntmps10
  go_wp2
  go_loopw [3] (fun v3 wr => ∃ i : Nat, v3 = .int .i64 i ∧ 1 ≤ i ∧ i ≤ 65 ∧ (1 ≤ d → i ≤ d) ∧ Below w.heap.size w wr) (fun v3 _ => 65 - (intOf v3).toNat)
  case atStart => exact ⟨1, rfl, by omega, by omega, fun h => h, Below.refl _ _⟩
  case round =>
    obtain ⟨i, rfl, hi1, hi2, hid, hbel⟩ := hrel
    have HID := Lib.hid hid
    clear hid
    by_cases hlt : i ≤ 64
    · obtain ⟨e, he⟩ : ∃ e, ck (lv i) s.data.toList = e := ⟨_, rfl⟩
      have hiff := HCK.out i hlt
      rw [← show lv i = i by unfold lv; omega, he, show lv i = i by unfold lv; omega] at hiff
      have HC := Lib.hid fun w => rck_any s i w HM.out e he
      clear he
      by_cases he0 : e = 0
      · subst he0
        have hdi : d = i := by have := HID.out; have := hiff.1 rfl; omega
        have HD := Lib.hid hdi
        clear hiff hdi
        go_wp2_with fail
        refine (HC.out _).mono ?_
        rintro en w1 ⟨rfl, hb1⟩
        go_wp2
        go_ret
        exact ckp_mk HD.out (hbel.trans (hb1.mono hbel.size))
      · have HN : Hid (1 ≤ d → i + 1 ≤ d) := by
          intro h1
          have h2 := HID.out h1
          by_cases h3 : d ≤ i
          · exact absurd (hiff.2 ⟨h1, h3⟩) he0
          · omega
        have hq : ((e : Int) == 0) = false := beq_eq_false_iff_ne.2 (by omega)
        clear hiff
        go_wp2_with fail
        refine (HC.out _).mono ?_
        rintro en w1 ⟨rfl, hb1⟩
        go_wp2
        go_roundw
        case rel => exact ⟨i + 1, by go_num, by omega, by omega, HN.out, hbel.trans (hb1.mono hbel.size)⟩
        case measure => simp [intOf]; omega
    · have HN : Hid (d = 0) := by
        have := HID.out
        unfold Hid; omega
      go_wp2
      go_ret
      exact ckp_mk HN.out hbel
end Go.Proofs.Ytkjmgpannjnlfaa
