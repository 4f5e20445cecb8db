/- All that a framer tells: the law's messages. -/
import Derived.Test.YtgihggaokamonaaFrameF
namespace Go.Proofs.Ytgihggaokamonaa
open Go Go.RowKit Go.Proofs.BerM Go.Proofs.BerK Go.Proofs.MemK
set_option linter.unusedVariables false

/-! ### Plain facts -/
theorem next_cases (most : Nat) (x : FS) : (fNext most x = (x, [], false) ∧ dr most x = ([], x)) ∨
    ((fNext most x).2.2 = true ∧ dr most x = ((fNext most x).2.1 :: (dr most (fNext most x).1).1, (dr most (fNext most x).1).2) ∧ (fNext most x).1.1.length + 2 ≤ x.1.length) := by
  by_cases h : x.2 ≠ 0 ∨ (rd x.1).2.2.2 ≠ 0
  · exact .inl ⟨next_no h, dr_no h⟩
  · right
    obtain ⟨l, e⟩ := x
    have he : e = 0 := by
      by_cases he : e = 0
      · exact he
      · exact absurd (.inl he) h
    subst he
    obtain ⟨t, b, sz, e, hr⟩ : ∃ t b sz e, rd l = (t, b, sz, e) := ⟨_, _, _, _, rfl⟩
    have he : e = 0 := by
      by_cases he : e = 0
      · exact he
      · exact absurd (.inr (by rw [hr]; exact he)) h
    subst he
    obtain ⟨hz1, hz2⟩ := rd_bd _ _ _ _ hr
    rw [next_yes hr]
    exact ⟨rfl, dr_yes hr, by simp; omega⟩
theorem dr_facts (most : Nat) : ∀ (n : Nat) (x : FS), x.1.length ≤ n → (dr most x).1.length ≤ x.1.length ∧ (dr most x).2.1.length ≤ x.1.length ∧ (toldF most x → toldF most (dr most x).2) := by
  intro n
  induction n with
  | zero =>
    intro x hx
    rcases next_cases most x with ⟨_, h⟩ | ⟨_, _, h⟩
    · rw [h]; exact ⟨by simp, Nat.le_refl _, id⟩
    · omega
  | succ n ih =>
    intro x hx
    rcases next_cases most x with ⟨_, h⟩ | ⟨_, h, hl⟩
    · rw [h]; exact ⟨by simp, Nat.le_refl _, id⟩
    · rw [h]
      obtain ⟨h1, h2, h3⟩ := ih (fNext most x).1 (by omega)
      refine ⟨by simp; omega, by simp only; omega, fun ht => h3 (told_next most x ht)⟩
theorem dr_len (most : Nat) (x : FS) : (dr most x).1.length ≤ x.1.length := (dr_facts most _ x (Nat.le_refl _)).1
theorem dr_left (most : Nat) (x : FS) : (dr most x).2.1.length ≤ x.1.length := (dr_facts most _ x (Nat.le_refl _)).2.1
theorem dr_told (most : Nat) (x : FS) (h : toldF most x) : toldF most (dr most x).2 := (dr_facts most _ x (Nat.le_refl _)).2.2 h
/-- Where no error is told, what is left does not hang on the pieces. -/
theorem dr_app3 (most : Nat) (s : List UInt8) : ∀ (n : Nat) (l : List UInt8), l.length ≤ n →
    (dr most (l ++ s, tf most (l ++ s))).2.2 = 0 → (dr most (l ++ s, tf most (l ++ s))).2 = (dr most (fFeed most (dr most (l, tf most l)).2 s)).2 := by
  intro n
  induction n with
  | zero =>
    intro l hl _
    obtain rfl := List.eq_nil_of_length_eq_zero (Nat.le_zero.1 hl)
    have h0 : dr most ([], tf most []) = ([], [], 0) := dr_no (.inr (by rw [rd_nil]; simp))
    rw [h0]
    simp [fFeed]
  | succ n ih =>
    intro l hl hz
    by_cases he : tf most l = 0
    · obtain ⟨t, b, sz, e, hr⟩ : ∃ t b sz e, rd l = (t, b, sz, e) := ⟨_, _, _, _, rfl⟩
      by_cases h0 : e = 0
      · subst h0
        obtain ⟨hz1, hz2⟩ := rd_bd _ _ _ _ hr
        have he2 : tf most (l ++ s) = 0 := by
          rw [tf_hd most l s (by omega) (by rw [hd_of_rd l t sz b hr]; decide)]; exact he
        have ha := rd_app l s t sz b hr
        rw [he2, dr_yes ha, List.drop_append_of_le_length hz2] at hz ⊢
        rw [he, dr_yes hr]
        exact ih (l.drop sz) (by simp; omega) hz
      · have hn : dr most (l, tf most l) = ([], l, 0) := by
          rw [he]; exact dr_no (.inr (by rw [hr]; exact h0))
        rw [hn]
        simp [fFeed]
    · exfalso
      have ha := tf_app most l s he
      rw [ha, dr_no (.inl he)] at hz
      exact he hz
/-- What came in pieces: the messages, the error, and, where there is none, what is left. -/
def Inv (most : Nat) (fed : List UInt8) (got : List (List UInt8)) (x : FS) : Prop :=
  got = (dr most (fed, tf most fed)).1 ∧ x.2 = (dr most (fed, tf most fed)).2.2 ∧ (x.2 = 0 → x = (dr most (fed, tf most fed)).2)
theorem inv_nil (most : Nat) : Inv most [] [] ([], 0) := by
  have h0 : dr most ([], tf most []) = ([], [], 0) := dr_no (.inr (by rw [rd_nil]; simp))
  unfold Inv
  rw [h0]
  exact ⟨rfl, rfl, fun _ => rfl⟩
theorem inv_step {most : Nat} {fed : List UInt8} {got : List (List UInt8)} {x : FS} (h : Inv most fed got x) (s : List UInt8) :
    Inv most (fed ++ s) (got ++ (dr most (fFeed most x s)).1) (dr most (fFeed most x s)).2 := by
  obtain ⟨h1, h2, h3⟩ := h
  obtain ⟨a1, a2⟩ := dr_app most s fed.length fed (Nat.le_refl _)
  have a3 := dr_app3 most s fed.length fed (Nat.le_refl _)
  by_cases h0 : x.2 = 0
  · have hx := h3 h0
    unfold Inv
    rw [h1, hx, a1, a2]
    exact ⟨rfl, rfl, fun hz => (a3 (by rw [a2]; exact hz)).symm⟩
  · have hd : (dr most (fed, tf most fed)).2.2 ≠ 0 := by rw [← h2]; exact h0
    have f1 : fFeed most x s = x := by rw [fFeed, if_pos h0]
    have f2 : fFeed most (dr most (fed, tf most fed)).2 s = (dr most (fed, tf most fed)).2 := by rw [fFeed, if_pos hd]
    have d1 : dr most x = ([], x) := dr_no (.inl h0)
    have d2 : dr most (dr most (fed, tf most fed)).2 = ([], (dr most (fed, tf most fed)).2) := dr_no (.inl hd)
    rw [f2, d2] at a1 a2
    unfold Inv
    rw [f1, d1, a1, a2, h1]
    exact ⟨by simp, h2, fun hz => absurd hz h0⟩
/-- A framer with nothing in it: its bytes lie nowhere. -/
theorem fr_rebase {w : World} {B g most : Nat} {x : FS} (h : Fr w B g most x none) (M : Nat) : Fr w M g most x none := by
  obtain ⟨gone, v, ho, hm, hr, rest⟩ := h
  refine ⟨gone, v, ho, ?_, hr, rest⟩
  rcases hm with hm | ⟨g', o, cap, cur, rfl, _⟩
  · exact .inl hm
  · simp [Value.ownBlock] at hr

/-! ### The law's messages -/
theorem Try.info9 : (Try.prog.info? 9).map (fun i => (i.zero, i.size, i.bytes)) = some (some (.string ByteArray.empty), 1, 16) := by kernel_rfl
/-- What messages hands back. -/
def MsgPost (B g most : Nat) (x : FS) (r : Option Nat) (w : World) (en : Ending) (w' : World) : Prop :=
  ∃ v r', en = .returned v ∧ w'.ownsRow w.heap.size 9 1 v (dr most x).1.length (sc (dr most x).1) ∧ Fr w' B g most (dr most x).2 r' ∧ (r' = r ∨ ∃ k, r' = some k ∧ w.heap.size ≤ k) ∧ (∀ k, v.ownBlock = some k → r' ≠ some k) ∧ Chg (fun k => k = g) w w'
set_option maxHeartbeats 1600000 in
set_option maxRecDepth 100000 in
theorem messages_any (B g most : Nat) (x : FS) (r : Option Nat) (w : World) (h : Fr w B g most x r) (hB : B ≤ w.heap.size) (ht : toldF most x) (hl : x.1.length ≤ 1999) :
    Calls Try.prog 14 #[.pointer (some ⟨g, 0, none⟩)] w (MsgPost B g most x r w) := by
  have hdl := dr_len most x
  have hgw := fr_lt h
  have H := Lib.hid h
  have HT := Lib.hid ht
  clear h ht
  go_enter Try.func14, Try.ntmps14
  go_wp2
  go_loopw [3] (fun v3 wr => ∃ (xs : List (List UInt8)) (y : FS) (q : Option Nat), dr most x = (xs ++ (dr most y).1, (dr most y).2) ∧ wr.ownsRow w.heap.size 9 1 v3 xs.length (sc xs) ∧ Fr wr B g most y q ∧ toldF most y ∧ (q = r ∨ ∃ k, q = some k ∧ w.heap.size ≤ k) ∧ (∀ k, v3.ownBlock = some k → q ≠ some k) ∧ Chg (fun k => k = g) w wr) (fun v3 _ => 2000 - sliceLen v3)
  case atStart => exact ⟨[], x, r, by simp, World.ownsRow_nil _ _ _ _, H.out, HT.out, .inl rfl, fun k hk => by simp [Value.ownBlock] at hk, Chg.refl _ _⟩
  case round =>
    obtain ⟨xs, y, q, hdr, hown, hfr, htold, hq, hdis, hch⟩ := hrel
    obtain ⟨oa, oc, rfl⟩ := ownsRow_slice hown
    have hxl : xs.length + (dr most y).1.length ≤ 1999 := by
      have := congrArg (fun z => z.1.length) hdr
      simp at this
      omega
    have hn := Lib.hid (nxt_any _ _ _ _ _ _ hfr (Nat.le_trans hB hch.size) htold)
    have hlt : (xs.length : Int) < 2000 := by omega
    unfold NextVal at hn
    rcases next_cases most y with ⟨h1, h2⟩ | ⟨h1, h2, h3⟩
    · rw [h1] at hn
      simp only at hn
      have HD := Lib.hid hdr
      have HO := Lib.hid hown
      have HFR := Lib.hid hfr
      have HDI := Lib.hid hdis
      have H2 := Lib.hid h2
      have HQ := Lib.hid hq
      clear hdr hown hfr hdis h1 h2 htold hq
      go_wp2_with fail
      refine hn.out.mono ?_
      rintro en w2 ⟨rfl, q2, hfr2, hq2, hch2⟩
      go_wp2
      go_ret
      have hlo := HO.out.lt
      refine ⟨.slice oa xs.length oc, q2, rfl, ?_, ?_, ?_, ?_, hch.trans hch2 (fun _ _ h => h)⟩
      · have ho := ownsRow_chg HO.out hch2 (fun k hk => by have := (hlo k hk).1; omega)
        rw [HD.out, H2.out]
        simpa using ho
      · rw [HD.out, H2.out]; exact hfr2
      · rcases hq2 with h | ⟨k, h, hk⟩
        · rw [h]; exact HQ.out
        · exact .inr ⟨k, h, Nat.le_trans hch.size hk⟩
      · intro k hk
        rcases hq2 with h | ⟨k2, h, hk2⟩
        · rw [h]; exact HDI.out k hk
        · rw [h]; have := (hlo k hk).2; intro he; injection he; omega
    · have htn := told_next most y htold
      generalize fNext most y = nx at hn h1 h2 h3 htn
      obtain ⟨y2, t, ok⟩ := nx
      simp only at hn h1 h2 h3 htn
      subst h1
      have hx2 : xs.length + 1 ≤ 1999 := by
        rw [h2] at hxl; simp at hxl; omega
      have hlo := hown.lt
      have HD := Lib.hid hdr
      have HO := Lib.hid hown
      have HFR := Lib.hid hfr
      have HDI := Lib.hid hdis
      have H2 := Lib.hid h2
      have HQ := Lib.hid hq
      clear hdr hown hfr hdis h2 htold hq
      go_wp2_with fail
      refine hn.out.mono ?_
      rintro en w2 ⟨rfl, q2, hfr2, hq2, hch2⟩
      have ho2 := ownsRow_chg HO.out hch2 (fun k hk => by have := (hlo k hk).1; omega)
      have hw2 : w.heap.size ≤ w2.heap.size := Nat.le_trans hch.size hch2.size
      have HFR2 := Lib.hid hfr2
      have HQ2 := Lib.hid hq2
      clear hfr2 hq2
      go_wp2_with (at_builtin; (refine wpList_pushc rfl (.tmp 17) (.tmp 19) 22 9 rfl w.heap.size 1 16 (.string ByteArray.empty) Try.info9 Try.underlying22 rfl (by decide) [.string ⟨t.toArray⟩] rfl (by simp [Value.oneCell']) (.slice oa xs.length oc) xs.length (sc xs) rfl _ rfl rfl ho2 (by unfold maxLen; omega) (by omega) hw2 ?_))
      intro v3 w3 hown3 hch3 hv3
      obtain ⟨oa3, oc3, rfl⟩ := ownsRow_slice hown3
      rw [show sc xs ++ [.string ⟨t.toArray⟩] = sc (xs ++ [t]) by rw [sc_append]; rfl] at hown3
      have HO3 := Lib.hid hown3
      have HV3 := Lib.hid hv3
      clear hown3 hv3 ho2
      go_wp2
      go_roundw
      case rel =>
        have hb2 := fr_block HFR2.out
        have hdis2 : ∀ k, (Value.slice oa xs.length oc).ownBlock = some k → q2 ≠ some k := by
          intro k hk
          rcases HQ2.out with h | ⟨k2, h, hk2⟩
          · rw [h]; exact HDI.out k hk
          · rw [h]; have := (hlo k hk).2; intro he; injection he; omega
        refine ⟨xs ++ [t], y2, q2, ?_, by rw [List.length_append]; exact HO3.out, ?_, htn, ?_, ?_, ?_⟩
        · rw [HD.out, H2.out]; simp
        · refine fr_chg HFR2.out hch3 (fun hk => ?_) (fun k hk hk2 => hdis2 k hk2.symm hk)
          have := (hlo g hk.symm).1; omega
        · rcases HQ2.out with h | ⟨k, h, hk⟩
          · rw [h]; exact HQ.out
          · exact .inr ⟨k, h, Nat.le_trans hch.size hk⟩
        · intro k hk
          rcases HV3.out with h | ⟨k3, h, hk3⟩
          · exact hdis2 k (h ▸ hk)
          · intro hq; have := (hb2 k hq).2; rw [h] at hk; injection hk; omega
        · exact (hch.trans hch2 (fun _ _ h => h)).trans hch3 (fun k hk hk2 => by have := (hlo k hk2.symm).1; omega)
      case measure => simp [sliceLen]; omega
end Go.Proofs.Ytgihggaokamonaa
