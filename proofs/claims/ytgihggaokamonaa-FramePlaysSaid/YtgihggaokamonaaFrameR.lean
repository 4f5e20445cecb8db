/- The walk of FramePlays. -/
import Derived.Test.YtgihggaokamonaaFrameF
import Derived.StillTailTactics
namespace Go.Proofs.Ytgihggaokamonaa
open Go Go.RowKit Go.Proofs.BerM Go.Proofs.BerK Go.Proofs.MemK
set_option linter.unusedVariables false

/-- What a law hands back. -/
def LawPost (w : World) (en : Ending) (w' : World) : Prop := en = .returned (.bool true) ∧ Below w.heap.size w w'
theorem strAt_form {w : World} {v : Value} {l : List (List UInt8)} (h : StrAt w v l) : ∃ a c, v = .slice a l.length c ∧ ∀ i (hi : i < l.length), ∃ g o, a = some ⟨g, o, none⟩ ∧ g < w.heap.size ∧ w.cell? ⟨g, o + i, none⟩ = some (.string ⟨l[i].toArray⟩) := by
  rcases h with ⟨rfl, a, c, rfl⟩ | ⟨h0, g, o, c, rfl, hg, hq⟩
  · exact ⟨a, c, rfl, fun i hi => by simp at hi⟩
  · exact ⟨_, c, rfl, fun i hi => ⟨g, o, rfl, hg, hq i hi⟩⟩

set_option maxHeartbeats 800000 in
set_option maxRecDepth 100000 in
theorem plays_long (q : Int) (v : Value) (l : List (List UInt8)) (w : World) (h : StrAt w v l) (hl : 30 < l.length) : Calls Try.prog 3 #[.int .i64 q, v] w (LawPost w) := by
  obtain ⟨a, c, rfl, _⟩ := strAt_form h
  have hl' : (30 : Int) < (l.length : Int) := by omega
  clear h
  go_enter Try.func3, Try.ntmps3
  go_wp2_with fail
  refine (awake_any _).mono ?_
  rintro en w1 ⟨rfl, hb⟩
  go_wp2
  go_ret
  exact ⟨rfl, hb⟩
set_option maxHeartbeats 800000 in
set_option maxRecDepth 100000 in
theorem plays_most (q : Int) (v : Value) (l : List (List UInt8)) (w : World) (h : StrAt w v l) (hl : l.length ≤ 30) (hq : q < 1 ∨ 65536 < q) : Calls Try.prog 3 #[.int .i64 q, v] w (LawPost w) := by
  obtain ⟨a, c, rfl, _⟩ := strAt_form h
  have hl' : (l.length : Int) ≤ 30 := by omega
  have HN := Lib.hid fun w => new_err q w hq
  clear h
  by_cases h1 : q < 1
  · clear hq
    go_enter Try.func3, Try.ntmps3
    go_wp2_with fail
    refine (HN.out _).mono ?_
    rintro en w1 ⟨rfl, rfl⟩
    go_wp2_with fail
    refine (awake_any _).mono ?_
    rintro en w1 ⟨rfl, hb⟩
    go_wp2
    go_ret
    exact ⟨rfl, hb⟩
  · have h2 : 65536 < q := by omega
    have h3 : 1 ≤ q := by omega
    clear hq h1
    go_enter Try.func3, Try.ntmps3
    go_wp2_with fail
    refine (HN.out _).mono ?_
    rintro en w1 ⟨rfl, rfl⟩
    go_wp2_with fail
    refine (awake_any _).mono ?_
    rintro en w1 ⟨rfl, hb⟩
    go_wp2
    go_ret
    exact ⟨rfl, hb⟩

theorem feed_len (most : Nat) (x : FS) (s : List UInt8) : (fFeed most x s).1.length ≤ x.1.length + s.length := by
  unfold fFeed
  split
  · omega
  · simp
theorem next_len (most : Nat) (x : FS) : (fNext most x).1.1.length ≤ x.1.length := by
  unfold fNext
  split
  · exact Nat.le_refl _
  · split
    · exact Nat.le_refl _
    · simp
theorem fr_e {w : World} {B g most : Nat} {x : FS} {r : Option Nat} (h : Fr w B g most x r) : x.2 ≤ 6 := by
  obtain ⟨gone, v, ho, hm, _, _, _, _, _, h⟩ := h
  exact h
/-- The document's framer at block X. -/
def Rx (w : World) (X most : Nat) (x : FS) : Prop := w.heap[X]? = some (.cells #[.int .i64 (most : Nat), .string ⟨x.1.toArray⟩, .int .i64 (x.2 : Nat)] 29 (0, 0))
theorem chg_set3 {S : Nat → Prop} {a w : World} (h : Chg S a w) {g : Nat} (hg : g < a.heap.size → S g) (x y z : Value) : Chg S a (((w.setCell ⟨g, 0, none⟩ x).setCell ⟨g, 1, none⟩ y).setCell ⟨g, 2, none⟩ z) :=
  ((h.setCell (p := ⟨g, 0, none⟩) hg x).setCell (p := ⟨g, 1, none⟩) hg y).setCell (p := ⟨g, 2, none⟩) hg z
/-- The document's framer is set anew. -/
theorem both_set {w : World} {B g X most : Nat} {x y : FS} {r : Option Nat} (hf : Fr w B g most y r) (hx : Rx w X most x) (hX : X < B) (hgX : g ≠ X) (e : Int) (he : e = (y.2 : Nat)) :
    Fr (((w.setCell ⟨X, 0, none⟩ (.int .i64 (most : Nat))).setCell ⟨X, 1, none⟩ (.string ⟨y.1.toArray⟩)).setCell ⟨X, 2, none⟩ (.int .i64 e)) B g most y r ∧
    Rx (((w.setCell ⟨X, 0, none⟩ (.int .i64 (most : Nat))).setCell ⟨X, 1, none⟩ (.string ⟨y.1.toArray⟩)).setCell ⟨X, 2, none⟩ (.int .i64 e)) X most y := by
  subst he
  refine ⟨fr_chg hf (chg_set3 (S := fun k => k = X) (Chg.refl _ w) (fun _ => rfl) _ _ _) hgX (fun k hk hkX => ?_), obj_set3 hx _ _ _⟩
  have := (fr_block hf k hk).1
  omega
/-- Both framers, at blocks N and N + 1, with the same in them. -/
def Both (w0 wr : World) (most m : Nat) : Prop :=
  ∃ x r, Fr wr (w0.heap.size + 2) w0.heap.size most x r ∧ toldF most x ∧ Rx wr (w0.heap.size + 1) most x ∧ x.1.length ≤ m ∧ Below w0.heap.size w0 wr ∧ w0.heap.size + 2 ≤ wr.heap.size

set_option maxHeartbeats 1600000 in
set_option maxRecDepth 100000 in
theorem plays_main (most : Nat) (v : Value) (l : List (List UInt8)) (w : World) (h : StrAt w v l) (hl : l.length ≤ 30) (h1 : 1 ≤ most) (h2 : most ≤ 65536) (hel : ∀ x ∈ l, x.length ≤ maxLen) : Calls Try.prog 3 #[.int .i64 most, v] w (LawPost w) := by
  obtain ⟨a, c, rfl, hq⟩ := strAt_form h
  have HQ := Lib.hid hq
  have HEL := Lib.hid hel
  have HN := Lib.hid (new_ok (w.heap.size + 2) most w h1 h2)
  have hl' : (l.length : Int) ≤ 30 := by omega
  have h1' : (1 : Int) ≤ (most : Int) := by omega
  have h2' : (most : Int) ≤ 65536 := by omega
  clear h hq hel
  go_enter Try.func3, Try.ntmps3
  go_wp2_with fail
  refine HN.out.mono ?_
  rintro en w1 ⟨rfl, hfr, hb1, hsz⟩
  have hB : Hid (Both w (w1.alloc (.cells #[.int .i64 (most : Nat), .string ⟨#[]⟩, .int .i64 0] 29)) most 0) := by
    refine ⟨([], 0), none, fr_chg hfr ((Chg.refl (fun _ => False) _).alloc _) id (fun _ _ => id), .inr ?_, ?_, Nat.le_refl _, hb1.alloc (by omega) _, by simp; omega⟩
    · simp [tf]
    · unfold Rx
      rw [← hsz]
      exact heap_alloc_new w1 _
  have HSZ := Lib.hid hsz
  clear hfr hb1 HN
  go_wp2
  clear hsz
  go_loopw [8] (fun v8 wr => ∃ i : Nat, v8 = .int .i64 i ∧ i ≤ l.length ∧ Both w wr most (300 * i)) (fun v8 _ => l.length - (intOf v8).toNat)
  case atStart => exact ⟨0, rfl, Nat.zero_le _, hB.out⟩
  case round =>
    obtain ⟨i, rfl, hi, hboth⟩ := hrel
    by_cases hlt : i < l.length
    · obtain ⟨x, r, hfr, htold, hrx, hlen, hbel, hsz⟩ := hboth
      obtain ⟨g', o, rfl, hg', hcell⟩ := HQ.out i hlt
      have hsel := HEL.out l[i] (List.getElem_mem hlt)
      generalize hs : l[i] = s at hcell hsel
      have hi0 : (0 : Int) ≤ i := by omega
      have hi1 : (i : Int) < (l.length : Int) := by omega
      have hcw := (hbel.cell (p := ⟨g', o + i, none⟩) hg').trans hcell
      unfold maxLen at hsel
      clear hs
      by_cases hlong : 300 < s.length
      · have hlong' : (300 : Int) < (s.length : Int) := by omega
        have HB := Lib.hid (show Both w wr most (300 * (i + 1)) from ⟨x, r, hfr, htold, hrx, by omega, hbel, hsz⟩)
        clear hfr htold hrx hbel hcell
        go_wp2
        go_roundw
        case rel => exact ⟨i + 1, by go_num, by omega, HB.out⟩
        case measure => simp [intOf]; omega
      · have hlong' : (s.length : Int) ≤ 300 := by omega
        have HF := Lib.hid (feed_any _ _ _ _ _ _ hfr hsz ⟨s.toArray⟩ (by show _ + s.toArray.size ≤ _; simp; omega))
        have HFR := Lib.hid hfr
        have HRX := Lib.hid hrx
        have HBL := Lib.hid hbel
        have HT := Lib.hid htold
        clear hfr hrx hbel htold
        go_wp2_with fail
        refine HF.out.mono ?_
        rintro en w2 ⟨rfl, r2, hfr2, _, hch2⟩
        have hRF : Hid (∀ w, Calls Try.prog 9 #[fx most x, .string ⟨s.toArray⟩] w (RfPost (fx most (fFeed most x s)) w)) :=
          fun w => rfeed_any most x ⟨s.toArray⟩ w (by show _ + s.toArray.size ≤ _; simp; omega)
        have hbd2 : (fFeed most x s).1.length ≤ 300 * (i + 1) := by have := feed_len most x s; omega
        have htold2 := told_feed most x s
        have hbel2 : Below w.heap.size w w2 := HBL.out.trans (hch2.toBelow (by omega) (fun k _ hk => by
          rcases hk with hk | hk
          · omega
          · have := (fr_block HFR.out k hk.symm).1; omega))
        have hrx2 : Rx w2 (w.heap.size + 1) most x := obj_chg HRX.out hch2 (by
          rintro (hk | hk)
          · omega
          · have := (fr_block HFR.out _ hk.symm).1; omega)
        have hsz2 : w.heap.size + 2 ≤ w2.heap.size := by have := hch2.size; omega
        have hcw2 := (hbel2.cell (p := ⟨g', o + i, none⟩) hg').trans hcell
        generalize fFeed most x s = y at hfr2 hRF hbd2 htold2
        obtain ⟨hX0, hX1, hX2⟩ := obj3 hrx2
        have HFR2 := Lib.hid hfr2
        have HRX2 := Lib.hid hrx2
        have HBL2 := Lib.hid hbel2
        have HT2 := Lib.hid htold2
        have HCW := Lib.hid hcell
        clear hfr2 hch2 hbel2 hrx2 htold2 HF HFR HRX HBL HT hcw hcell
        go_wp2
        go_still_tail 5, (by kernel_rfl)
        change wpList _ _ _ _ _ w2.drew
        have HFR3 : Hid (Fr w2.drew (w.heap.size + 2) w.heap.size most y r2) := HFR2
        have HRX3 : Hid (Rx w2.drew (w.heap.size + 1) most x) := HRX2
        have HBL3 : Hid (Below w.heap.size w w2.drew) := Lib.hid HBL2.out.drew
        have hsz3 : w.heap.size + 2 ≤ w2.drew.heap.size := hsz2
        clear HFR2 HRX2 HBL2 hX0 hX1 hX2 hsz2 hcw2
        generalize w2.drew = w3 at HFR3 HRX3 HBL3 hsz3 ⊢
        go_wp2_with fail
        refine (hRF.out _).mono ?_
        rintro en w4 ⟨rfl, hb4⟩
        have hrx4 : Rx w4 (w.heap.size + 1) most x := obj_below HRX3.out hb4 (by omega)
        have hfr4 := fr_chg (S := fun _ => False) HFR3.out (Chg.ofBelow hb4) id (fun _ _ => id)
        have hbel4 := HBL3.out.trans (hb4.mono (by omega))
        have hsz4 : w.heap.size + 2 ≤ w4.heap.size := by have := hb4.size; omega
        obtain ⟨hX0, hX1, hX2⟩ := obj3 hrx4
        have hy0 := obj_free hrx4 0
        have hy1 := obj_free hrx4 1
        have hy2 := obj_free hrx4 2
        have HRX4 := Lib.hid hrx4
        have HFR4 := Lib.hid hfr4
        have HBL4 := Lib.hid hbel4
        clear hrx4 hfr4 hbel4 hb4 HFR3 HRX3 HBL3 hRF
        go_wp2
        have hB5 : Both w (((w4.setCell ⟨w.heap.size + 1, 0, none⟩ (.int .i64 (most : Nat))).setCell ⟨w.heap.size + 1, 1, none⟩ (.string ⟨y.1.toArray⟩)).setCell ⟨w.heap.size + 1, 2, none⟩ (.int .i64 (y.2 : Nat))) most (300 * (i + 1)) := by
          obtain ⟨b1, b2⟩ := both_set HFR4.out HRX4.out (by omega) (by omega) (y.2 : Nat) rfl
          exact ⟨y, r2, b1, HT2.out, b2, hbd2, below_set3 HBL4.out (by omega) _ _ _, by simp; omega⟩
        have HB5 := Lib.hid hB5
        clear hB5 HRX4 HFR4 HBL4 hX0 hX1 hX2 hy0 hy1 hy2 hsz4 HT2 hbd2 hsz3
        generalize hw5 : (((w4.setCell ⟨w.heap.size + 1, 0, none⟩ (.int .i64 (most : Nat))).setCell ⟨w.heap.size + 1, 1, none⟩ (.string ⟨y.1.toArray⟩)).setCell ⟨w.heap.size + 1, 2, none⟩ (.int .i64 (y.2 : Nat))) = w5 at HB5 ⊢
        clear hw5
        have hcs : s.length = s.length := rfl
        obtain ⟨n, hn⟩ : ∃ n, n = s.length := ⟨_, rfl⟩
        go_loopw [9] (fun v9 wr => ∃ k : Nat, v9 = .int .i64 k ∧ k ≤ s.length % 3 ∧ Both w wr most (300 * (i + 1))) (fun v9 _ => 3 - (intOf v9).toNat)
        case atStart => exact ⟨0, rfl, Nat.zero_le _, HB5.out⟩
        case round =>
          obtain ⟨k, rfl, hk, hboth⟩ := hrel
          obtain ⟨x, r, hfr, htold, hrx, hlen, hbel, hsz⟩ := hboth
          have hcw := (hbel.cell (p := ⟨g', o + i, none⟩) hg').trans HCW.out
          by_cases hlt3 : k < s.length % 3
          · have hNx := Lib.hid (nxt_any _ _ _ _ _ _ hfr hsz htold)
            have hRN : Hid (∀ w, Calls Try.prog 11 #[fx most x] w (RfPost (rnv most ⟨(fNext most x).1.1.toArray⟩ (fNext most x).1.2 ⟨(fNext most x).2.1.toArray⟩ (fNext most x).2.2) w)) :=
              fun w => rnext_any most x w (by omega) htold (fr_e hfr)
            have hk3 : (k : Int) < (s.length : Int) % 3 := by omega
            have HFR := Lib.hid hfr
            have HRX := Lib.hid hrx
            have HBL := Lib.hid hbel
            have htn := told_next most x htold
            have hln := next_len most x
            unfold NextVal at hNx
            generalize fNext most x = nx at hNx hRN htn hln
            obtain ⟨y2, t, ok⟩ := nx
            simp only at hNx hRN htn hln
            have HTN := Lib.hid htn
            clear hfr hrx hbel htold htn
            go_wp2_with fail
            refine hNx.out.mono ?_
            rintro en w6 ⟨rfl, r6, hfr6, _, hch6⟩
            have hrx6 : Rx w6 (w.heap.size + 1) most x := obj_chg HRX.out hch6 (by omega)
            have hbel6 : Below w.heap.size w w6 := HBL.out.trans (hch6.toBelow (by omega) (fun k _ hk => by omega))
            have hsz6 : w.heap.size + 2 ≤ w6.heap.size := by have := hch6.size; omega
            obtain ⟨hX0, hX1, hX2⟩ := obj3 hrx6
            have HFR6 := Lib.hid hfr6
            have HRX6 := Lib.hid hrx6
            have HBL6 := Lib.hid hbel6
            clear hfr6 hrx6 hbel6 hch6 HFR HRX HBL hNx
            go_wp2_with fail
            refine (hRN.out _).mono ?_
            rintro en w7 ⟨rfl, hb7⟩
            have hfr7 := fr_chg (S := fun _ => False) HFR6.out ((Chg.ofBelow hb7).alloc (.cells #[.int .i64 (most : Nat), .string ⟨y2.1.toArray⟩, .int .i64 (y2.2 : Nat)] 29)) id (fun _ _ => id)
            have hrx7 : Rx (w7.alloc (.cells #[.int .i64 (most : Nat), .string ⟨y2.1.toArray⟩, .int .i64 (y2.2 : Nat)] 29)) (w.heap.size + 1) most x := obj_alloc (obj_below HRX6.out hb7 (by omega)) _
            have hbel7 := (HBL6.out.trans (hb7.mono (by omega))).alloc (by have := hb7.size; omega) (.cells #[.int .i64 (most : Nat), .string ⟨y2.1.toArray⟩, .int .i64 (y2.2 : Nat)] 29)
            have hsz7 : w.heap.size + 2 ≤ w7.heap.size := by have := hb7.size; omega
            obtain ⟨hY0, hY1, hY2⟩ := obj3 hrx7
            have hy0 := obj_free hrx7 0
            have hy1 := obj_free hrx7 1
            have hy2 := obj_free hrx7 2
            obtain ⟨hZ0, hZ1, hZ2⟩ := obj3 (heap_alloc_new w7 (.cells #[.int .i64 (most : Nat), .string ⟨y2.1.toArray⟩, .int .i64 (y2.2 : Nat)] 29))
            have HFR7 := Lib.hid hfr7
            have HRX7 := Lib.hid hrx7
            have HBL7 := Lib.hid hbel7
            clear hfr7 hrx7 hbel7 hb7 HFR6 HRX6 HBL6 hX0 hX1 hX2 hRN
            go_wp2
            go_roundw
            case rel =>
              obtain ⟨b1, b2⟩ := both_set HFR7.out HRX7.out (by omega) (by omega) (y2.2 : Nat) rfl
              exact ⟨k + 1, by go_num, by omega, y2, r6, b1, HTN.out, b2, by omega, below_set3 HBL7.out (by omega) _ _ _, by simp; omega⟩
            case measure => simp [intOf]; omega
          · have hk3 : (s.length : Int) % 3 ≤ (k : Int) := by omega
            obtain ⟨hX0, hX1, hX2⟩ := obj3 hrx
            have HE := Lib.hid fun n => err_any _ _ _ _ _ _ (fr_drewN hfr n)
            have HL := Lib.hid fun n => left_any _ _ _ _ _ _ (fr_drewN hfr n)
            have HFR := Lib.hid hfr
            have HRX := Lib.hid hrx
            have HBL := Lib.hid hbel
            have HT := Lib.hid htold
            clear hfr hrx hbel htold
            go_wp2
            go_quiet (first | (go_at_call 12; exact Calls.quiet_of_same (HE.out _)) | (go_at_call 13; exact Calls.quiet_of_same (HL.out _)))
            go_wp2
            go_roundw
            case rel => exact ⟨i + 1, by go_num, by omega, x, r, fr_drewN HFR.out nq, HT.out, HRX.out, hlen, below_dn HBL.out nq, hsz⟩
            case measure => simp [intOf]; omega
    · have hi' : i = l.length := by omega
      obtain ⟨x, r, hfr, htold, hrx, hlen, hbel, hsz⟩ := hboth
      clear hfr htold hrx
      go_wp2_with fail
      refine (awake_any _).mono ?_
      rintro en w2 ⟨rfl, hb⟩
      go_wp2
      go_ret
      exact ⟨rfl, hbel.trans (hb.mono hbel.size)⟩
theorem plays_walk (q : Int) (v : Value) (l : List (List UInt8)) (w : World) (h : StrAt w v l) (hel : ∀ x ∈ l, x.length ≤ maxLen) :
    Calls Try.prog 3 #[.int .i64 q, v] w fun e w' => e = .returned (.bool true) ∧ Below w.heap.size w w' := by
  show Calls _ _ _ _ (LawPost w)
  by_cases hl : 30 < l.length
  · exact plays_long q v l w h hl
  · by_cases hq : q < 1 ∨ 65536 < q
    · exact plays_most q v l w h (by omega) hq
    · obtain ⟨m, rfl⟩ : ∃ m : Nat, q = m := ⟨q.toNat, by omega⟩
      exact plays_main m v l w h (by omega) (by omega) (by omega) hel
end Go.Proofs.Ytgihggaokamonaa
