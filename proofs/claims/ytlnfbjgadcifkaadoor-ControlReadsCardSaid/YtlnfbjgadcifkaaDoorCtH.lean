/- The document's ReadPersist and ReadNotice. -/
import Derived.Test.YtlnfbjgadcifkaaDoorCtE
import Derived.Test.YtlnfbjgadcifkaaDoorCtG
namespace Go.Proofs.YtlnfbjgadcifkaaDoor
set_option linter.unusedSimpArgs false
set_option linter.unusedVariables false
open Go Go.RowKit Go.Proofs.BerM Go.Proofs.BerK Go.Proofs.MemK Go.Proofs.NumM

/-- The k-th of the two truths. -/
def kC (k : Nat) : Bool := k % 2 == 1
def kR (k : Nat) : Bool := decide (1 < k)
theorem kk_all (c r : Bool) : ∃ k, k < 4 ∧ kC k = c ∧ kR k = r := by
  cases c <;> cases r
  · exact ⟨0, by decide, rfl, rfl⟩
  · exact ⟨2, by decide, rfl, rfl⟩
  · exact ⟨1, by decide, rfl, rfl⟩
  · exact ⟨3, by decide, rfl, rfl⟩
theorem pe_first {s : List UInt8} {i j : Nat} (h1 : ∀ (t : Int) c r, t < i → peP t c r ≠ (s, 0)) (h2 : ∀ m, m < j → peP (i : Int) (kC m) (kR m) ≠ (s, 0)) (hj : ¬ j < 4) : ∀ (t : Int) c r, t < ((i + 1 : Nat) : Int) → peP t c r ≠ (s, 0) := by
  intro t c r ht
  by_cases he : t = i
  · subst he
    obtain ⟨k, hk, rfl, rfl⟩ := kk_all c r
    exact h2 k (by omega)
  · exact h1 t c r (by omega)
theorem pe_last {s : List UInt8} {i : Nat} (h1 : ∀ (t : Int) c r, t < i → peP t c r ≠ (s, 0)) (hi : ¬ i ≤ 15) : ∀ t c r, peP t c r ≠ (s, 0) := by
  intro t c r
  by_cases he : t < i
  · exact h1 t c r he
  · unfold peP
    rw [if_neg (by omega)]
    simp
theorem kmod (j : Nat) : ((j : Int) % 2 == 1) = kC j := by
  rw [kC, Bool.eq_iff_iff]
  simp only [beq_iff_eq]
  omega
theorem pe_pos {t : Int} (c r : Bool) (h1 : 1 ≤ t) (h2 : t ≤ 15) : peP t c r = (peL t c r, 0) := by unfold peP; rw [if_pos ⟨h1, h2⟩]

set_option maxHeartbeats 3200000 in
set_option maxRecDepth 100000 in
theorem rcper_any (s : List UInt8) (w : World) (hs : s.length ≤ maxLen) : Calls Tryd.prog 14 #[.string ⟨s.toArray⟩] w (PrPost (peR s) w) := by
  have HQ := Lib.hid (fun k c r w' => rcpe_any k c r w')
  obtain ⟨W, hW⟩ : ∃ W, w.alloc (.cells #[.int .i64 0, .bool false, .bool false] 23) = W := ⟨_, rfl⟩
  have hb0 : Below w.heap.size w W := by rw [← hW]; exact (Below.refl _ w).alloc (Nat.le_refl _) _
  have hg : W.heap[w.heap.size]? = some (.cells #[.int .i64 0, .bool false, .bool false] 23 (0, 0)) := by rw [← hW]; exact heap_alloc_new w _
  have HG := Lib.hid hg
  have HZ := Lib.hid hb0
  have hxl := obj_lt hg
  have HXL := Lib.hid hxl
  clear hb0 hg
  go_enter Tryd.func14, Tryd.ntmps14
  go_wp2
  go_loopw [4] (fun v4 wr => ∃ i : Nat, v4 = .int .i64 i ∧ 1 ≤ i ∧ i ≤ 16 ∧ (∀ (t : Int) c r, t < i → peP t c r ≠ (s, 0)) ∧ Below W.heap.size W wr) (fun v4 _ => 16 - (intOf v4).toNat)
  case atStart => exact ⟨1, rfl, by omega, by omega, fun t c r ht => by unfold peP; rw [if_neg (by omega)]; simp, Below.refl _ _⟩
  case round =>
    obtain ⟨i, rfl, hi1, hi2, hall, hbel⟩ := hrel
    have HA := Lib.hid hall
    obtain ⟨wo, rfl⟩ : ∃ x, x = wr := ⟨_, rfl⟩
    have HB := Lib.hid hbel
    clear hall hbel
    by_cases hi : i ≤ 15
    · have hil : (i : Int) ≤ 15 := by omega
      go_wp2
      go_loopw [5] (fun v5 wr => ∃ j : Nat, v5 = .int .i64 j ∧ j ≤ 4 ∧ (∀ m, m < j → peP (i : Int) (kC m) (kR m) ≠ (s, 0)) ∧ Below W.heap.size W wr) (fun v5 _ => 4 - (intOf v5).toNat)
      case atStart => exact ⟨0, rfl, by omega, fun m hm => by omega, HB.out⟩
      case round =>
        obtain ⟨j, rfl, hj, hall2, hbel2⟩ := hrel
        have HA2 := Lib.hid hall2
        have HB2 := Lib.hid hbel2
        clear hall2 hbel2
        by_cases hj4 : j < 4
        · have hjl : (j : Int) < 4 := by omega
          have hkm := kmod j
          have hkr : decide ((1 : Int) < (j : Int)) = kR j := by unfold kR; rw [Bool.eq_iff_iff]; simp only [decide_eq_true_eq]; omega
          have HP := Lib.hid (pe_pos (kC j) (kR j) (show (1 : Int) ≤ (i : Int) by omega) hil)
          have HQ2 := Lib.hid (fun w' => HQ.out (i : Int) (kC j) (kR j) w')
          obtain ⟨c, hc⟩ : ∃ q, kC j = q := ⟨_, rfl⟩
          obtain ⟨r, hr⟩ : ∃ q, kR j = q := ⟨_, rfl⟩
          have HAJ := Lib.hid (fun (h : peP (i : Int) c r ≠ (s, 0)) => (fun m (hm : m < j + 1) => (by
            by_cases e : m = j
            · rw [e, hc, hr]; exact h
            · exact HA2.out m (by omega) : peP (i : Int) (kC m) (kR m) ≠ (s, 0))))
          rw [hc] at hkm HP HQ2
          rw [hr] at hkr HP HQ2
          rw [HP.out] at HQ2
          obtain ⟨X, hX⟩ : ∃ q, peL (i : Int) c r = q := ⟨_, rfl⟩
          rw [hX] at HP HQ2
          have HNX := Lib.hid (fun (h : X ≠ s) => (by rw [HP.out]; simp [h] : peP (i : Int) c r ≠ (s, 0)))
          have HYX := Lib.hid (fun (h : X = s) => pe_back (i : Int) c r s (by rw [HP.out, h]))
          clear hc hr hX HP
          by_cases hq : X = s
          · have hqb : (X == s) = true := by simp [hq]
            have HV := Lib.hid (HYX.out hq)
            clear hq HYX HNX HAJ
            go_wp2_with fail
            refine (HQ2.out _).mono ?_
            rintro en w3 ⟨rfl, hb3⟩
            have hbp := obj_below (heap_alloc_new wr _) hb3 (by simp)
            have p0 := obj_cell hbp 0 _ rfl
            have p1 := obj_cell hbp 1 _ rfl
            have p2 := obj_cell hbp 2 _ rfl
            have hb3 := HB2.out.trans ((((Below.refl _ wr).alloc (Nat.le_refl _) _).trans (hb3.mono (by simp))).mono HB2.out.size)
            have hbox := obj_below HG.out hb3 HXL.out
            have b0 := obj_cell hbox 0 _ rfl
            have b1 := obj_cell hbox 1 _ rfl
            have b2 := obj_cell hbox 2 _ rfl
            have f0 := obj_free hbox 0
            have f1 := obj_free hbox 1
            have f2 := obj_free hbox 2
            have H3 := Lib.hid (HZ.out.trans (hb3.mono HZ.out.size))
            clear hb3 hbox hbp
            go_wp2
            refine bodyPost_ret (v := .tuple #[.agg #[.int .i64 (i : Int), .bool c, .bool r], .int .i64 0]) (by simp [results, Tryd.results14, go_sem, *]) rfl ⟨by rw [HV.out]; rfl, ?_⟩
            exact below_set3' H3.out (Nat.le_refl _) _ _ _
          · have hqb : (X == s) = false := by simp [hq]
            have HN := Lib.hid (HAJ.out (HNX.out hq))
            clear hq HYX HNX HAJ
            go_wp2_with fail
            refine (HQ2.out _).mono ?_
            rintro en w3 ⟨rfl, hb3⟩
            have hb3 := HB2.out.trans ((((Below.refl _ wr).alloc (Nat.le_refl _) _).trans (hb3.mono (by simp))).mono HB2.out.size)
            have H3 := Lib.hid hb3
            clear hb3
            go_wp2
            go_roundw
            case rel => exact ⟨j + 1, by go_num, by omega, HN.out, H3.out⟩
            case measure => simp [intOf]; omega
        · obtain rfl : j = 4 := by omega
          have HN := Lib.hid (pe_first HA.out HA2.out (by omega))
          go_wp2
          go_roundw
          case rel => exact ⟨i + 1, by go_num, by omega, by omega, HN.out, HB2.out⟩
          case measure => simp [intOf]; omega
    · obtain rfl : i = 16 := by omega
      have hv : peR s = ((0, false, false), 5) := pe_none s (pe_last HA.out (by omega))
      have HV := Lib.hid hv
      clear hv
      have hbox := obj_below HG.out HB.out HXL.out
      have b0 := obj_cell hbox 0 _ rfl
      have b1 := obj_cell hbox 1 _ rfl
      have b2 := obj_cell hbox 2 _ rfl
      have f0 := obj_free hbox 0
      have f1 := obj_free hbox 1
      have f2 := obj_free hbox 2
      have H3 := Lib.hid (HZ.out.trans (HB.out.mono HZ.out.size))
      clear hbox
      go_wp2
      refine bodyPost_ret (v := .tuple #[.agg #[.int .i64 0, .bool false, .bool false], .int .i64 5]) (by simp [results, Tryd.results14, go_sem, *]) rfl ⟨by rw [HV.out]; rfl, ?_⟩
      exact below_set3' H3.out (Nat.le_refl _) _ _ _
end Go.Proofs.YtlnfbjgadcifkaaDoor
