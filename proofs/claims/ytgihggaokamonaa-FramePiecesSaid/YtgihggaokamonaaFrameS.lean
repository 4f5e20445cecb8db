/- The walk of FramePieces. -/
import Derived.Test.YtgihggaokamonaaFrameG
namespace Go.Proofs.Ytgihggaokamonaa
open Go Go.RowKit Go.Proofs.BerM Go.Proofs.BerK Go.Proofs.MemK
set_option linter.unusedVariables false

/-- What a law hands back. -/
def PPost (w : World) (en : Ending) (w' : World) : Prop := en = .returned (.bool true) ∧ Below w.heap.size w w'
theorem byteAt_form {w : World} {v : Value} {bs : List UInt8} (h : ByteAt w v bs) : ∃ a c, v = .slice a bs.length c ∧ ∀ i (hi : i < bs.length), ∃ g o, a = some ⟨g, o, none⟩ ∧ g < w.heap.size ∧ w.cell? ⟨g, o + i, none⟩ = some (.int .u8 (bs[i].toNat : Nat)) := h
set_option maxHeartbeats 800000 in
set_option maxRecDepth 100000 in
theorem pieces_long (s : ByteArray) (v : Value) (bs : List UInt8) (w : World) (h : ByteAt w v bs) (hm : s.size ≤ maxLen) (hl : 1000 < s.size ∨ 100 < bs.length) : Calls Try.prog 4 #[.string s, v] w (PPost w) := by
  obtain ⟨a, c, rfl, _⟩ := byteAt_form h
  clear h
  unfold maxLen at hm
  by_cases h1 : 1000 < s.size
  · have h2 : (1000 : Int) < (s.size : Int) := by omega
    clear hl h1
    go_enter Try.func4, Try.ntmps4
    go_wp2_with fail
    refine (awake_any _).mono ?_
    rintro en w1 ⟨rfl, hb⟩
    go_wp2
    go_ret
    exact ⟨rfl, hb⟩
  · have h2 : (s.size : Int) ≤ 1000 := by omega
    have h3 : (100 : Int) < (bs.length : Int) := by omega
    clear hl h1
    go_enter Try.func4, Try.ntmps4
    go_wp2_with fail
    refine (awake_any _).mono ?_
    rintro en w1 ⟨rfl, hb⟩
    go_wp2
    go_ret
    exact ⟨rfl, hb⟩

theorem feed_len' (most : Nat) (x : FS) (s : List UInt8) : (fFeed most x s).1.length ≤ x.1.length + s.length := by
  unfold fFeed
  split
  · omega
  · simp
/-- What the second framer was told so far, its block at g; all from M on but it. -/
def Half (w0 wr : World) (M g : Nat) (l : List UInt8) (p : Nat) (vg : Value) : Prop :=
  ∃ got x r, Inv 200 (l.take p) got x ∧ Fr wr M g 200 x r ∧ toldF 200 x ∧ x.1.length ≤ p ∧ wr.ownsRow M 9 1 vg got.length (sc got) ∧ got.length ≤ p ∧ (∀ k, vg.ownBlock = some k → r ≠ some k) ∧ Chg (fun k => k = g) w0 wr

theorem half_own {wr w5 w6 : World} {M g : Nat} {vg : Value} {n : Nat} {xs : List Value} {r : Option Nat} (hg : g < M) (hown : wr.ownsRow M 9 1 vg n xs) (hdis : ∀ k, vg.ownBlock = some k → r ≠ some k)
    (hch5 : Chg (fun k => k = g ∨ some k = r) wr w5) (hch6 : Chg (fun k => k = g) w5 w6) : w6.ownsRow M 9 1 vg n xs := by
  have hlo := hown.lt
  refine ownsRow_chg (ownsRow_chg hown hch5 ?_) hch6 ?_
  · rintro k hk (h | h)
    · have := (hlo k hk).1; omega
    · exact hdis k hk h.symm
  · intro k hk h
    have := (hlo k hk).1; omega
theorem half_step {w4 wr w5 w6 w7 : World} {M g : Nat} {L : List UInt8} {p n : Nat} {got : List (List UInt8)} {x y : FS} {r r5 r6 : Option Nat} {vg v7 : Value}
    (hM : M = w4.heap.size) (hg : g < M) (hp : p + n ≤ L.length) (hy : y = fFeed 200 x ((L.drop p).take n))
    (hinv : Inv 200 (L.take p) got x) (htold : toldF 200 x) (hfr : Fr wr M g 200 x r) (hxl : x.1.length ≤ p) (hown : wr.ownsRow M 9 1 vg got.length (sc got)) (hdis : ∀ k, vg.ownBlock = some k → r ≠ some k) (hch : Chg (fun k => k = g) w4 wr)
    (hr5 : r5 = r ∨ ∃ k, r5 = some k ∧ wr.heap.size ≤ k) (hch5 : Chg (fun k => k = g ∨ some k = r) wr w5)
    (hfr6 : Fr w6 M g 200 (dr 200 y).2 r6) (hr6 : r6 = r5 ∨ ∃ k, r6 = some k ∧ w5.heap.size ≤ k) (hch6 : Chg (fun k => k = g) w5 w6)
    (hown7 : w7.ownsRow M 9 1 v7 (got.length + (dr 200 y).1.length) (sc got ++ sc (dr 200 y).1)) (hch7 : Chg (fun k => some k = vg.ownBlock) w6 w7) (hv7 : v7.ownBlock = vg.ownBlock ∨ ∃ k, v7.ownBlock = some k ∧ w6.heap.size ≤ k) :
    Half w4 w7 M g L (p + n) v7 := by
  have hlo := hown.lt
  have hpl : ((L.drop p).take n).length = n := by simp; omega
  have hyl : y.1.length ≤ p + n := by
    have := feed_len' 200 x ((L.drop p).take n)
    rw [← hy, hpl] at this; omega
  have hinv' := inv_step hinv ((L.drop p).take n)
  rw [← hy, ← List.take_add] at hinv'
  have hd6 : ∀ k, vg.ownBlock = some k → r6 ≠ some k := by
    intro k hk
    have hk2 := (hlo k hk).2
    rcases hr6 with h | ⟨k6, h, hk6⟩
    · rw [h]
      rcases hr5 with h | ⟨k5, h, hk5⟩
      · rw [h]; exact hdis k hk
      · rw [h]; intro he; injection he; omega
    · rw [h]; have := hch5.size; intro he; injection he; omega
  have hl := dr_left 200 y
  have ht : toldF 200 y := by rw [hy]; exact told_feed _ _ _
  refine ⟨got ++ (dr 200 y).1, (dr 200 y).2, r6, hinv', ?_, dr_told _ _ ht, by omega, by rw [List.length_append, sc_append]; exact hown7, ?_, ?_, ?_⟩
  · refine fr_chg hfr6 hch7 (fun hk => ?_) (fun k hk hk2 => hd6 k hk2.symm hk)
    have := (hlo g hk.symm).1; omega
  · rw [hinv'.1]
    have := dr_len 200 (L.take (p + n), tf 200 (L.take (p + n)))
    simp only [List.length_take] at this
    omega
  · intro k hk
    rcases hv7 with h | ⟨k7, h, hk7⟩
    · exact hd6 k (h ▸ hk)
    · intro hq; have := (fr_block hfr6 k hq).2; rw [h] at hk; injection hk; omega
  · have h1 := hch.trans hch5 (fun k hk hk2 => by
      rcases hk2 with h | h
      · exact h
      · have := (fr_block hfr k h.symm).1; omega)
    have h2 := h1.trans hch6 (fun _ _ h => h)
    exact h2.trans hch7 (fun k hk hk2 => by have := (hlo k hk2.symm).1; omega)

set_option maxHeartbeats 1600000 in
set_option maxRecDepth 100000 in
theorem pieces_main (s : ByteArray) (v : Value) (bs : List UInt8) (w : World) (h : ByteAt w v bs) (hm : s.size ≤ 1000) (hl : bs.length ≤ 100) : Calls Try.prog 4 #[.string s, v] w (PPost w) := by
  obtain ⟨a, c, rfl, hq⟩ := byteAt_form h
  have HQ := Lib.hid hq
  have HN := Lib.hid (new_ok (w.heap.size + 2) 200 w (by omega) (by omega))
  have hl' : (bs.length : Int) ≤ 100 := by omega
  have hm' : (s.size : Int) ≤ 1000 := by omega
  clear h hq
  go_enter Try.func4, Try.ntmps4
  go_wp2_with fail
  refine HN.out.mono ?_
  rintro en w1 ⟨rfl, hfa, hb1, hsz⟩
  have HN2 := Lib.hid (new_ok (w.heap.size + 2) 200 w1 (by omega) (by omega))
  have HFA := Lib.hid hfa
  have HB1 := Lib.hid hb1
  have HS1 := Lib.hid hsz
  clear hfa hb1 hsz HN
  go_wp2_with fail
  refine HN2.out.mono ?_
  rintro en w2 ⟨rfl, hfb, hb2, hsz2⟩
  have hsz1 := HS1.out
  rw [hsz1] at hfb hsz2
  have hfa2 := fr_chg (S := fun _ => False) HFA.out (Chg.ofBelow hb2) id (fun _ _ => id)
  have hb12 : Below w.heap.size w w2 := HB1.out.trans (hb2.mono (by omega))
  have HFA2 := Lib.hid hfa2
  have HFB2 := Lib.hid hfb
  have HB2 := Lib.hid hb12
  have HS2 := Lib.hid hsz2
  have HF := Lib.hid (feed_is (B := w.heap.size + 2) (g := w.heap.size) (most := 200) (x := ([], 0)) (y := (s.data.toList, tf 200 s.data.toList)) (s := s) (by simp [fFeed]) (by simp; omega) _ _ hfa2 (by omega))
  clear hfa2 hfb hb12 hb2 HN2 HFA HB1 hsz2
  go_wp2_with fail
  refine HF.out.mono ?_
  rintro en w3 ⟨rfl, r3, hfa3, _, hch3⟩
  have hsl : s.data.toList.length = s.size := len_list s
  have HSL := Lib.hid hsl
  have hw3 : w.heap.size + 2 ≤ w3.heap.size := by have := hch3.size; have := HS2.out; omega
  have hfb3 := fr_chg HFB2.out hch3 (by rintro (h | h) <;> simp at h) (by simp)
  have hb3 : Below w.heap.size w w3 := HB2.out.trans (hch3.toBelow (by have := HS2.out; omega) (by
    rintro k _ (hk | hk)
    · omega
    · cases hk))
  have HMs := Lib.hid (messages_any _ _ _ _ _ _ hfa3 hw3 (by
    by_cases hz : tf 200 s.data.toList = 0
    · exact .inr hz
    · exact .inl hz) (by show s.data.toList.length ≤ _; omega))
  have HFB3 := Lib.hid hfb3
  have HB3 := Lib.hid hb3
  clear hfa3 hfb3 hb3 hch3 HFA2 HFB2 HB2 HS2 HF hsl hsz1
  go_wp2_with fail
  refine HMs.out.mono ?_
  rintro en w4 ⟨va, ra, rfl, howna, hfa4, _, hda, hch4⟩
  obtain ⟨aa, ca, rfl⟩ := ownsRow_slice howna
  have hfb4 := fr_rebase (fr_chg HFB3.out hch4 (by omega) (fun _ h => by cases h)) w4.heap.size
  have hb4 : Below w.heap.size w w4 := HB3.out.trans (hch4.toBelow (by omega) (fun k _ hk => by omega))
  have hw4 : w.heap.size + 2 ≤ w4.heap.size := Nat.le_trans hw3 hch4.size
  have hstart : Half w4 w4 w4.heap.size (w.heap.size + 1) s.data.toList 0 (.slice none 0 0) :=
    ⟨[], ([], 0), none, inv_nil 200, hfb4, .inr (by simp [tf]), by simp, World.ownsRow_nil _ _ _ _, by simp, fun k hk => by simp [Value.ownBlock] at hk, Chg.refl _ _⟩
  have HST := Lib.hid hstart
  have HOA := Lib.hid howna
  have HFA4 := Lib.hid hfa4
  have HB4 := Lib.hid hb4
  clear howna hfa4 hda hch4 hfb4 hb4 hstart HFB3 HB3 HMs
  go_wp2
  go_loopw [10, 11, 12] (fun v10 v11 v12 wr => ∃ (i p : Nat) (rest : ByteArray), v12 = .int .i64 i ∧ i ≤ bs.length ∧ p ≤ s.size ∧ v10 = .string rest ∧ rest.data.toList = s.data.toList.drop p ∧ Half w4 wr w4.heap.size (w.heap.size + 1) s.data.toList p v11) (fun _ _ v12 _ => bs.length - (intOf v12).toNat)
  case atStart => exact ⟨0, 0, s, rfl, Nat.zero_le _, Nat.zero_le _, rfl, by simp, HST.out⟩
  case round =>
    obtain ⟨i, p, rest, rfl, hi, hp, rfl, hrest, hhalf⟩ := hrel
    have hrs : rest.size = s.size - p := by rw [← len_list rest, hrest, List.length_drop, HSL.out]
    have HRest := Lib.hid hrest
    have HRS := Lib.hid hrs
    clear hrest hrs
    obtain ⟨got, x, r, hinv, hfr, htold, hxl, hown, hgl, hdis, hch⟩ := hhalf
    obtain ⟨oa, oc, rfl⟩ := ownsRow_slice hown
    by_cases hlt : i < bs.length
    · obtain ⟨g', o, rfl, hg', hcell⟩ := HQ.out i hlt
      have hc4 := (HB4.out.cell (p := ⟨g', o + i, none⟩) hg').trans hcell
      have hcw : wr.cell? ⟨g', o + i, none⟩ = _ := (World.cell?_of_block (a := ⟨g', o + i, none⟩) (hch.block g' (show g' < w4.heap.size by omega) (show ¬ g' = w.heap.size + 1 by omega))).trans hc4
      have hb256 : bs[i].toNat < 256 := bs[i].toNat_lt
      generalize bs[i].toNat = cb at hcw hb256
      obtain ⟨n, hn⟩ : ∃ n, n = min (cb % 16) rest.size := ⟨_, rfl⟩
      have hmin : (if (rest.size : Int) < (cb : Int) % 16 then (rest.size : Int) else (cb : Int) % 16) = (n : Int) := by split <;> omega
      have hi0 : (0 : Int) ≤ i := by omega
      have hi1 : (i : Int) < (bs.length : Int) := by omega
      have hnr : (n : Int) ≤ (rest.size : Int) := by omega
      have hpn : p + n ≤ s.size := by have := HRS.out; omega
      obtain ⟨y, hy⟩ : ∃ y, y = fFeed 200 x ((s.data.toList.drop p).take n) := ⟨_, rfl⟩
      have hxs : (rest.extract 0 n).size = n := by rw [ext_size rest 0 n (Nat.zero_le _) (by omega)]; omega
      have HF := Lib.hid (feed_is (B := w4.heap.size) (g := w.heap.size + 1) (most := 200) (x := x) (y := y) (s := rest.extract 0 n) (by rw [ext_data, List.drop_zero, HRest.out, hy]; rfl) (by rw [hxs]; omega) _ _ hfr hch.size)
      have hyl : y.1.length ≤ 1999 := by
        have h1 := feed_len' 200 x ((s.data.toList.drop p).take n)
        rw [← hy, List.length_take] at h1; omega
      have hyt : toldF 200 y := by rw [hy]; exact told_feed _ _ _
      have HN' := Lib.hid hn
      have HY := Lib.hid hy
      have HINV := Lib.hid hinv
      have HFR := Lib.hid hfr
      have HOWN := Lib.hid hown
      have HDIS := Lib.hid hdis
      have HTO := Lib.hid htold
      have HYT := Lib.hid hyt
      have hxr : (rest.extract n rest.size).data.toList = s.data.toList.drop (p + n) := by
        rw [ext_data, HRest.out, List.drop_drop, List.take_of_length_le (by rw [List.length_drop, HSL.out]; have := HRS.out; omega)]
      have HXR := Lib.hid hxr
      clear hn hy hinv hfr hown hdis htold hcell hc4 hxs hyt hxr hlt
      go_wp2_with fail
      refine HF.out.mono ?_
      rintro en w5 ⟨rfl, r5, hfr5, hr5, hch5⟩
      have HM5 := Lib.hid (messages_any _ _ _ _ _ _ hfr5 (Nat.le_trans hch.size hch5.size) HYT.out hyl)
      clear hfr5
      go_wp2_with fail
      refine HM5.out.mono ?_
      rintro en w6 ⟨v6, r6, rfl, hown6, hfr6, hr6, _, hch6⟩
      obtain ⟨o6, c6, rfl⟩ := ownsRow_slice hown6
      have hownw := half_own (show w.heap.size + 1 < w4.heap.size by omega) HOWN.out HDIS.out hch5 hch6
      have hdl : (dr 200 y).1.length ≤ 1999 := Nat.le_trans (dr_len 200 y) hyl
      have HR5 := Lib.hid hr5
      have HR6 := Lib.hid hr6
      have HFR6 := Lib.hid hfr6
      clear hr5 hr6 hfr6 hcw hmin
      go_wp2_with (at_builtin; (refine wpList_appendc rfl (.tmp 67) (.tmp 69) 22 9 rfl w4.heap.size 1 16 (.string ByteArray.empty) Try.info9 Try.underlying22 rfl (by decide) (.slice oa got.length oc) got.length (sc got) rfl hownw (.slice o6 (dr 200 y).1.length c6) w5.heap.size (dr 200 y).1.length (sc (dr 200 y).1) rfl hown6 (sc_one_cell _) (by unfold maxLen; omega) (by omega) (by have := hch.size; have := hch5.size; have := hch6.size; omega) ?_))
      intro v7 w7 hown7 hch7 hv7
      have hst := half_step (L := s.data.toList) (p := p) (n := n) rfl (show w.heap.size + 1 < w4.heap.size by omega) (by rw [HSL.out]; exact hpn) HY.out HINV.out HTO.out HFR.out hxl HOWN.out HDIS.out hch HR5.out hch5 HFR6.out HR6.out hch6 hown7 hch7 hv7
      obtain ⟨o7, c7, rfl⟩ := ownsRow_slice hown7
      have HST7 := Lib.hid hst
      clear hst hown7 hch7 hv7 hownw hown6 hch5 hch6 hch HF HM5 HFR HOWN HDIS HINV HR5 HR6 HFR6
      go_wp2
      go_roundw
      case rel => exact ⟨i + 1, p + n, rest.extract n rest.size, by go_num, by omega, hpn, rfl, HXR.out, HST7.out⟩
      case measure => simp [intOf]; omega
    · have hi' : i = bs.length := by omega
      obtain ⟨n, hn⟩ : ∃ n, n = rest.size := ⟨_, rfl⟩
      have hpn : p + n = s.size := by have := HRS.out; omega
      obtain ⟨y, hy⟩ : ∃ y, y = fFeed 200 x ((s.data.toList.drop p).take n) := ⟨_, rfl⟩
      have htk : (s.data.toList.drop p).take n = s.data.toList.drop p := List.take_of_length_le (by rw [List.length_drop, HSL.out]; omega)
      have HF := Lib.hid (feed_is (B := w4.heap.size) (g := w.heap.size + 1) (most := 200) (x := x) (y := y) (s := rest) (by rw [HRest.out, hy, htk]) (by omega) _ _ hfr hch.size)
      have hyl : y.1.length ≤ 1999 := by
        have h1 := feed_len' 200 x ((s.data.toList.drop p).take n)
        rw [← hy, List.length_take] at h1; omega
      have hyt : toldF 200 y := by rw [hy]; exact told_feed _ _ _
      have HPN := Lib.hid hpn
      have HY := Lib.hid hy
      have HINV := Lib.hid hinv
      have HFR := Lib.hid hfr
      have HOWN := Lib.hid hown
      have HDIS := Lib.hid hdis
      have HTO := Lib.hid htold
      have HYT := Lib.hid hyt
      clear hn hy hinv hfr hown hdis htold hyt hpn htk
      go_wp2_with fail
      refine HF.out.mono ?_
      rintro en w5 ⟨rfl, r5, hfr5, hr5, hch5⟩
      have HM5 := Lib.hid (messages_any _ _ _ _ _ _ hfr5 (Nat.le_trans hch.size hch5.size) HYT.out hyl)
      clear hfr5
      go_wp2_with fail
      refine HM5.out.mono ?_
      rintro en w6 ⟨v6, r6, rfl, hown6, hfr6, hr6, _, hch6⟩
      obtain ⟨o6, c6, rfl⟩ := ownsRow_slice hown6
      have hownw := half_own (show w.heap.size + 1 < w4.heap.size by omega) HOWN.out HDIS.out hch5 hch6
      have hdl : (dr 200 y).1.length ≤ 1999 := Nat.le_trans (dr_len 200 y) hyl
      have HR5 := Lib.hid hr5
      have HR6 := Lib.hid hr6
      have HFR6 := Lib.hid hfr6
      clear hr5 hr6 hfr6
      go_wp2_with (at_builtin; (refine wpList_appendc rfl (.tmp 74) (.tmp 76) 22 9 rfl w4.heap.size 1 16 (.string ByteArray.empty) Try.info9 Try.underlying22 rfl (by decide) (.slice oa got.length oc) got.length (sc got) rfl hownw (.slice o6 (dr 200 y).1.length c6) w5.heap.size (dr 200 y).1.length (sc (dr 200 y).1) rfl hown6 (sc_one_cell _) (by unfold maxLen; omega) (by omega) (by have := hch.size; have := hch5.size; have := hch6.size; omega) ?_))
      intro v7 w7 hown7 hch7 hv7
      have hst := half_step (L := s.data.toList) (p := p) (n := n) rfl (show w.heap.size + 1 < w4.heap.size by omega) (by rw [HSL.out, HPN.out]; exact Nat.le_refl _) HY.out HINV.out HTO.out HFR.out hxl HOWN.out HDIS.out hch HR5.out hch5 HFR6.out HR6.out hch6 hown7 hch7 hv7
      clear hown7 hch7 hv7 hownw hown6 hch5 hch6 hch HF HM5 HFR HOWN HDIS HINV HR5 HR6 HFR6 HYT HTO HY hyl hdl hxl hgl
      obtain ⟨got2, x2, r2, hinv2, hfr2, _, _, hown2, hgl2, _, hch2⟩ := hst
      rw [HPN.out, ← HSL.out, List.take_length] at hinv2
      obtain ⟨hi1, hi2, _⟩ := hinv2
      have hfa := fr_chg HFA4.out hch2 (by omega) (fun k hk => by have := (fr_block HFA4.out k hk).1; omega)
      have hoa := ownsRow_chg HOA.out hch2 (fun k hk => by have := (HOA.out.lt k hk).1; omega)
      have hb7 := HB4.out.trans (hch2.toBelow (by omega) (fun k _ hk => by omega))
      clear HFA4 HOA HB4 HST hch2
      generalize dr 200 (s.data.toList, tf 200 s.data.toList) = D at *
      obtain ⟨al, xa⟩ := D
      simp only at hi1 hi2 hfa hoa
      subst hi1
      obtain ⟨o7, c7, rfl⟩ := ownsRow_slice hown2
      have HEa := Lib.hid (err_any _ _ _ _ _ _ hfa)
      have hEb := err_any _ _ _ _ _ _ hfr2
      rw [hi2] at hEb
      have HEb := Lib.hid hEb
      obtain ⟨aa', ca', hea, hqa⟩ := strU_owns hoa
      obtain ⟨ag', cg', heg, hqg⟩ := strU_owns hown2
      cases hea
      cases heg
      have HQA := Lib.hid hqa
      have HQG := Lib.hid hqg
      have HB7 := Lib.hid hb7
      clear hfa hfr2 hi2 hEb hqa hqg hoa hown2 hb7
      go_wp2_with fail
      refine HEa.out.mono ?_
      rintro en w8 ⟨rfl, hw8⟩
      obtain rfl := hw8.symm
      go_wp2_with fail
      refine HEb.out.mono ?_
      rintro en w8 ⟨rfl, hw8⟩
      obtain rfl := hw8.symm
      go_wp2
      go_loopw [14] (fun v14 wr => ∃ k : Nat, v14 = .int .i64 k ∧ k ≤ got2.length ∧ Below w7.heap.size w7 wr) (fun v14 _ => got2.length - (intOf v14).toNat)
      case atStart => exact ⟨0, rfl, Nat.zero_le _, Below.refl _ _⟩
      case round =>
        obtain ⟨k, rfl, hk, hbk⟩ := hrel
        by_cases hlt2 : k < got2.length
        · obtain ⟨ga, rfl, hga, hca⟩ := HQA.out k hlt2
          obtain ⟨gb, rfl, hgb, hcb⟩ := HQG.out k hlt2
          have hc1 := (hbk.cell (p := ⟨ga, k, none⟩) hga).trans hca
          have hc2 := (hbk.cell (p := ⟨gb, k, none⟩) hgb).trans hcb
          have hk1000 : (k : Int) ≤ 1000 := by have := HPN.out; omega
          have hk0 : (0 : Int) ≤ k := by omega
          have hk1 : (k : Int) < (got2.length : Int) := by omega
          generalize got2[k] = tx at hc1 hc2
          have HBK := Lib.hid hbk
          clear hca hcb hlt2 hbk
          go_wp2
          go_quiet (fail)
          go_wp2
          go_roundw
          case rel => exact ⟨k + 1, by go_num, by omega, below_dn HBK.out nq⟩
          case measure => simp [intOf]; omega
        · have hk' : k = got2.length := by omega
          go_wp2_with fail
          refine (awake_any _).mono ?_
          rintro en w9 ⟨rfl, hb9⟩
          go_wp2
          go_ret
          exact ⟨rfl, HB7.out.trans ((hbk.trans (hb9.mono hbk.size)).mono HB7.out.size)⟩
theorem pieces_walk (s : ByteArray) (v : Value) (bs : List UInt8) (w : World) (hm : s.size ≤ maxLen) (h : ByteAt w v bs) :
    Calls Try.prog 4 #[.string s, v] w fun e w' => e = .returned (.bool true) ∧ Below w.heap.size w w' := by
  show Calls _ _ _ _ (PPost w)
  by_cases hl : 1000 < s.size ∨ 100 < bs.length
  · exact pieces_long s v bs w h hm hl
  · exact pieces_main s v bs w h (by omega) (by omega)
end Go.Proofs.Ytgihggaokamonaa
