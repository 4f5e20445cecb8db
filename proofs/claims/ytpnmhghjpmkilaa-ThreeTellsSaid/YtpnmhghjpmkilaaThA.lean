/- The code's truths: what is called tells what the plain functions do. -/
import Derived.Test.YtpnmhghjpmkilaaThM
import Derived.Test.YtpnmhghjpmkilaaChecked
import Derived.WalkKit
import Derived.Lib.Hide
import Derived.BigQuiet
import Derived.Deep.RegionHeld3
namespace Go.Proofs.Ytpnmhghjpmkilaa
set_option linter.unusedSimpArgs false
set_option linter.unusedVariables false
open Go Go.RowKit Go.Proofs.BerK Go.Proofs.MemK Go.Proofs.ThM

set_option maxRecDepth 100000 in
theorem tcount_any (x : Int) (w : World) : Calls Try.prog 19 #[.int .i64 x] w fun e w' => e = .returned (.int .i64 (cntT x)) ∧ w' = w := by
  by_cases h0 : x = 0
  · subst h0
    go_enter Try.func19, Try.ntmps19
    go_wp2
    go_ret
    exact ⟨rfl, rfl⟩
  · by_cases h1 : x = 1
    · subst h1
      go_enter Try.func19, Try.ntmps19
      go_wp2
      go_ret
      exact ⟨rfl, rfl⟩
    · have HV := Lib.hid (show cntT x = 2 by simp [cntT, h0, h1])
      have q0 : (x == 0) = false := by simpa using h0
      have q1 : (x == 1) = false := by simpa using h1
      clear h0 h1
      go_enter Try.func19, Try.ntmps19
      go_wp2
      go_ret
      exact ⟨by rw [HV.out]; rfl, rfl⟩
set_option maxRecDepth 100000 in
theorem tnot_any (x : Int) (w : World) : Calls Try.prog 6 #[.int .i64 x] w fun e w' => e = .returned (.int .i64 (notT x)) ∧ w' = w := by
  by_cases h0 : x = 0
  · subst h0
    go_enter Try.func6, Try.ntmps6
    go_wp2
    go_ret
    exact ⟨rfl, rfl⟩
  · by_cases h1 : x = 1
    · subst h1
      go_enter Try.func6, Try.ntmps6
      go_wp2
      go_ret
      exact ⟨rfl, rfl⟩
    · have HV := Lib.hid (show notT x = 2 by simp [notT, h0, h1])
      have q0 : (x == 0) = false := by simpa using h0
      have q1 : (x == 1) = false := by simpa using h1
      clear h0 h1
      go_enter Try.func6, Try.ntmps6
      go_wp2
      go_ret
      exact ⟨by rw [HV.out]; rfl, rfl⟩
set_option maxHeartbeats 400000 in
set_option maxRecDepth 100000 in
theorem thas1_any (x t : Int) (b : Nat) (w : World) (hb : w.cell? ⟨b, 0, none⟩ = some (.int .i64 t)) :
    Calls Try.prog 18 #[.int .i64 x, .pointer (some ⟨b, 0, none⟩)] w (RetB (cntT x == t) w) := by
  have HC := Lib.hid (tcount_any x)
  obtain ⟨c, hc⟩ : ∃ c, cntT x = c := ⟨_, rfl⟩
  rw [hc] at HC ⊢
  clear hc
  go_enter Try.func18, Try.ntmps18
  go_wp2_with fail
  go_quiet (first | (go_at_call 19; exact Calls.quiet_of_same (HC.out _)))
  go_wp2
  go_ret
  exact retB_mk rfl (below_dn (Below.refl _ _) _)
set_option maxHeartbeats 1600000 in
set_option maxRecDepth 100000 in
theorem tindex_any (l : List Int) (t : Int) (v : Value) (b : Nat) (w : World) (hb : w.cell? ⟨b, 0, none⟩ = some (.int .i64 t)) (h : IntR w v l) (hl : l.length ≤ 1000000) :
    Calls Try.prog 20 #[v, .func (.func 18) #[] #[.pointer (some ⟨b, 0, none⟩)]] w (fun en w' => ∃ n : Int, en = .returned (.int .i64 n) ∧ decide (0 ≤ n) = hasT l t ∧ Below w.heap.size w w') := by
  have HF := Lib.hid (fun x W (hW : Below w.heap.size w W) => thas1_any x t b W ((hW.cell (p := ⟨b, 0, none⟩) (World.block_lt_of_cell? w _ hb)).trans hb))
  obtain ⟨a, c, rfl, hcells⟩ := h
  have HM := Lib.hid hcells
  obtain ⟨n, hn⟩ : ∃ n, l.length = n := ⟨_, rfl⟩
  have HL := Lib.hid hn
  have HY := Lib.hid (any_atL (l := l) (q := fun x => cntT x == t))
  have HN := Lib.hid (any_noL (l := l) (q := fun x => cntT x == t))
  obtain ⟨R, hR⟩ : ∃ R, hasT l t = R := ⟨_, rfl⟩
  have HR := Lib.hid hR
  rw [hn] at hl ⊢
  clear hcells hn hb
  rw [hR]
  clear hR
  go_enter Try.func20, Try.ntmps20
  go_wp2
  go_loopw [8] (fun v wr => ∃ k : Nat, k ≤ n ∧ v = .int .i64 (k : Nat) ∧ Below w.heap.size w wr ∧ ∀ j (hj : j < l.length), j < k → (cntT l[j] == t) = false) (fun v _ => n - (intOf v).toNat)
  case atStart => exact ⟨0, by omega, rfl, Below.refl _ _, fun j _ h => by omega⟩
  case round =>
    obtain ⟨k, hk, rfl, hb, hall⟩ := hrel
    have hsr := hb.size
    by_cases hlt : k < n
    · have hkl : (k : Int) < (n : Int) := by omega
      have hkm : k < l.length := by rw [HL.out]; exact hlt
      obtain ⟨g, o, rfl, hg, e0w⟩ := HM.out k hkm
      have e0 := (hb.cell (p := ⟨g, _, none⟩) hg).trans e0w
      have hF := HF.out l[k] wr hb
      obtain ⟨bq, hbq⟩ : ∃ b, (cntT l[k] == t) = b := ⟨_, rfl⟩
      have HYk := Lib.hid (fun hx => HY.out k hkm (by rw [hbq]; exact hx))
      have HA := Lib.hid (fun (hx : bq = false) j (hj : j < l.length) (hjk : j < k + 1) => (show (cntT l[j] == t) = false by
        by_cases hjj : j = k
        · subst hjj; rw [hbq]; exact hx
        · exact hall j hj (by omega)))
      rw [hbq] at hF
      obtain ⟨nm, hnm⟩ : ∃ x, l[k] = x := ⟨_, rfl⟩
      rw [hnm] at e0 hF
      have HFk := Lib.hid hF
      have HB := Lib.hid hb
      clear hb hall e0w hbq hF hnm
      go_wp2_with fail
      refine HFk.out.mono ?_
      rintro en w5 ⟨rfl, hb5⟩
      have HB5 := Lib.hid (HB.out.trans (hb5.mono hsr))
      clear hb5 e0
      cases bq
      · have H := Lib.hid (HA.out rfl)
        go_wp2
        exact ⟨⟨k + 1, by omega, by go_num, HB5.out, H.out⟩, by simp [intOf]; omega⟩
      · have H := Lib.hid (HYk.out rfl)
        go_wp2
        go_ret
        exact ⟨_, rfl, by rw [← HR.out]; unfold hasT; rw [H.out]; simp, HB5.out⟩
    · obtain rfl : k = n := by omega
      have H := Lib.hid (HN.out (fun j hj => hall j hj (by rw [← HL.out]; exact hj)))
      have HB := Lib.hid hb
      clear hb hall
      go_wp2
      go_ret
      exact ⟨_, rfl, by rw [← HR.out]; unfold hasT; rw [H.out]; rfl, HB.out⟩
set_option maxHeartbeats 400000 in
theorem tcont_any (l : List Int) (t : Int) (v : Value) (b : Nat) (w : World) (hb : w.cell? ⟨b, 0, none⟩ = some (.int .i64 t)) (h : IntR w v l) (hl : l.length ≤ 1000000) :
    Calls Try.prog 17 #[v, .func (.func 18) #[] #[.pointer (some ⟨b, 0, none⟩)]] w (RetB (hasT l t) w) := by
  have HC := Lib.hid (tindex_any l t v b w hb h hl)
  obtain ⟨a, c, rfl, _⟩ := h
  obtain ⟨R, hR⟩ : ∃ R, hasT l t = R := ⟨_, rfl⟩
  rw [hR] at HC ⊢
  clear hR hb
  go_enter Try.func17, Try.ntmps17
  go_wp2_with fail
  refine HC.out.mono ?_
  rintro en w1 ⟨n, rfl, hn, hb⟩
  have H := Lib.hid hn
  clear hn
  go_wp2
  go_ret
  exact retB_mk H.out.symm hb
set_option maxHeartbeats 400000 in
theorem thas_any (l : List Int) (t : Int) (v : Value) (w : World) (h : IntR w v l) (hl : l.length ≤ 1000000) :
    Calls Try.prog 16 #[v, .int .i64 t] w (RetB (hasT l t) w) := by
  obtain ⟨W1, hW1⟩ : ∃ W1, w.alloc (.cells #[.int .i64 t] 3) = W1 := ⟨_, rfl⟩
  have k1 : Below w.heap.size w W1 := by rw [← hW1]; exact (Below.refl _ w).alloc (Nat.le_refl _) _
  have x1 : W1.cell? ⟨w.heap.size, 0, none⟩ = some (.int .i64 t) := by
    rw [← hW1, World.cell?_alloc_mark w _ 3 (0, 0)]; rfl
  have HC := Lib.hid (tcont_any l t v w.heap.size W1 x1 (intR_below h k1) hl)
  obtain ⟨a, c, rfl, _⟩ := h
  have HW := Lib.hid hW1
  have HB := Lib.hid k1
  obtain ⟨R, hR⟩ : ∃ R, hasT l t = R := ⟨_, rfl⟩
  rw [hR] at HC ⊢
  clear hW1 k1 x1 hR
  go_enter Try.func16, Try.ntmps16
  go_wp2_with fail
  rw [HW.out]
  refine HC.out.mono ?_
  rintro en w5 ⟨rfl, hb5⟩
  have HB5 := Lib.hid (HB.out.trans (hb5.mono HB.out.size))
  clear hb5
  go_wp2
  go_ret
  exact retB_mk rfl HB5.out
set_option maxHeartbeats 1600000 in
set_option maxRecDepth 100000 in
theorem tfirst_any (l q : List Int) (nn : Int) (v vq : Value) (w : World) (h : IntR w v l) (hq : IntR w vq q) (hl : l.length ≤ 1000000) (hql : q.length ≤ 1000000) :
    Calls Try.prog 14 #[v, .int .i64 nn, vq] w (RetI (firT l nn q) w) := by
  have HF := Lib.hid (fun t W (hW : Below w.heap.size w W) => thas_any l t v W (intR_below h hW) hl)
  obtain ⟨av, cv, rfl, _⟩ := h
  obtain ⟨a, c, rfl, hcells⟩ := hq
  have HM := Lib.hid hcells
  obtain ⟨n, hn⟩ : ∃ n, q.length = n := ⟨_, rfl⟩
  have HL := Lib.hid hn
  have HY := Lib.hid (firT_hit l nn q)
  have HN := Lib.hid (firT_miss l nn q)
  rw [hn] at hql ⊢
  obtain ⟨R, hR⟩ : ∃ R, firT l nn q = R := ⟨_, rfl⟩
  rw [hR] at HY HN ⊢
  clear hcells hn hR
  go_enter Try.func14, Try.ntmps14
  go_wp2
  go_loopw [11] (fun v wr => ∃ k : Nat, k ≤ n ∧ v = .int .i64 (k : Nat) ∧ Below w.heap.size w wr ∧ ∀ j (hj : j < q.length), j < k → hasT l q[j] = false) (fun v _ => n - (intOf v).toNat)
  case atStart => exact ⟨0, by omega, rfl, Below.refl _ _, fun j _ h => by omega⟩
  case round =>
    obtain ⟨k, hk, rfl, hb, hall⟩ := hrel
    have hsr := hb.size
    by_cases hlt : k < n
    · have hkl : (k : Int) < (n : Int) := by omega
      have hkm : k < q.length := by rw [HL.out]; exact hlt
      obtain ⟨g, o, rfl, hg, e0w⟩ := HM.out k hkm
      have e0 := (hb.cell (p := ⟨g, _, none⟩) hg).trans e0w
      have hF := HF.out q[k] wr hb
      obtain ⟨bq, hbq⟩ : ∃ b, hasT l q[k] = b := ⟨_, rfl⟩
      have HYk := Lib.hid (fun hx => HY.out k hkm hall (by rw [hbq]; exact hx))
      have HA := Lib.hid (fun (hx : bq = false) j (hj : j < q.length) (hjk : j < k + 1) => (show hasT l q[j] = false by
        by_cases hjj : j = k
        · subst hjj; rw [hbq]; exact hx
        · exact hall j hj (by omega)))
      rw [hbq] at hF
      obtain ⟨nm, hnm⟩ : ∃ x, q[k] = x := ⟨_, rfl⟩
      rw [hnm] at e0 hF HYk
      have HFk := Lib.hid hF
      have HB := Lib.hid hb
      clear hb hall e0w hbq hF hnm
      go_wp2_with fail
      refine HFk.out.mono ?_
      rintro en w5 ⟨rfl, hb5⟩
      have HB5 := Lib.hid (HB.out.trans (hb5.mono hsr))
      clear hb5 e0
      cases bq
      · have H := Lib.hid (HA.out rfl)
        go_wp2
        exact ⟨⟨k + 1, by omega, by go_num, HB5.out, H.out⟩, by simp [intOf]; omega⟩
      · have H := Lib.hid (HYk.out rfl)
        go_wp2
        go_ret
        exact retI_mk H.out HB5.out
    · obtain rfl : k = n := by omega
      have H := Lib.hid (HN.out (fun j hj => hall j hj (by rw [← HL.out]; exact hj)))
      have HB := Lib.hid hb
      clear hb hall
      go_wp2
      go_ret
      exact retI_mk H.out HB.out
set_option maxHeartbeats 400000 in
theorem tand_any (l : List Int) (v : Value) (w : World) (h : IntR w v l) (hl : l.length ≤ 1000000) :
    Calls Try.prog 8 #[v] w (RetI (andT l) w) := by
  obtain ⟨W1, hW1⟩ : ∃ W1, w.alloc (.cells #[.int .i64 0, .int .i64 2] 3) = W1 := ⟨_, rfl⟩
  have k1 : Below w.heap.size w W1 := by rw [← hW1]; exact (Below.refl _ w).alloc (Nat.le_refl _) _
  have x1 : IntR W1 (.slice (some ⟨w.heap.size, 0, none⟩) 2 2) [0, 2] := by rw [← hW1]; exact intR_new w [0, 2] 3
  have HC := Lib.hid (tfirst_any l [0, 2] 1 v _ W1 (intR_below h k1) x1 hl (by decide))
  obtain ⟨a, c, rfl, _⟩ := h
  have HW := Lib.hid hW1
  have HB := Lib.hid k1
  unfold andT
  obtain ⟨R, hR⟩ : ∃ R, firT l 1 [0, 2] = R := ⟨_, rfl⟩
  rw [hR] at HC ⊢
  clear hW1 k1 x1 hR
  go_enter Try.func8, Try.ntmps8
  go_wp2_with fail
  rw [HW.out]
  refine HC.out.mono ?_
  rintro en w5 ⟨rfl, hb5⟩
  have HB5 := Lib.hid (HB.out.trans (hb5.mono HB.out.size))
  clear hb5
  go_wp2
  go_ret
  exact retI_mk rfl HB5.out
set_option maxHeartbeats 400000 in
theorem tor_any (l : List Int) (v : Value) (w : World) (h : IntR w v l) (hl : l.length ≤ 1000000) :
    Calls Try.prog 10 #[v] w (RetI (orT l) w) := by
  obtain ⟨W1, hW1⟩ : ∃ W1, w.alloc (.cells #[.int .i64 1, .int .i64 2] 3) = W1 := ⟨_, rfl⟩
  have k1 : Below w.heap.size w W1 := by rw [← hW1]; exact (Below.refl _ w).alloc (Nat.le_refl _) _
  have x1 : IntR W1 (.slice (some ⟨w.heap.size, 0, none⟩) 2 2) [1, 2] := by rw [← hW1]; exact intR_new w [1, 2] 3
  have HC := Lib.hid (tfirst_any l [1, 2] 0 v _ W1 (intR_below h k1) x1 hl (by decide))
  obtain ⟨a, c, rfl, _⟩ := h
  have HW := Lib.hid hW1
  have HB := Lib.hid k1
  unfold orT
  obtain ⟨R, hR⟩ : ∃ R, firT l 0 [1, 2] = R := ⟨_, rfl⟩
  rw [hR] at HC ⊢
  clear hW1 k1 x1 hR
  go_enter Try.func10, Try.ntmps10
  go_wp2_with fail
  rw [HW.out]
  refine HC.out.mono ?_
  rintro en w5 ⟨rfl, hb5⟩
  have HB5 := Lib.hid (HB.out.trans (hb5.mono HB.out.size))
  clear hb5
  go_wp2
  go_ret
  exact retI_mk rfl HB5.out
set_option maxHeartbeats 400000 in
theorem tleast_any (l : List Int) (v : Value) (w : World) (h : IntR w v l) (hl : l.length ≤ 1000000) :
    Calls Try.prog 12 #[v] w (RetI (leastT l) w) := by
  obtain ⟨W1, hW1⟩ : ∃ W1, w.alloc (.cells #[.int .i64 0, .int .i64 2, .int .i64 1] 3) = W1 := ⟨_, rfl⟩
  have k1 : Below w.heap.size w W1 := by rw [← hW1]; exact (Below.refl _ w).alloc (Nat.le_refl _) _
  have x1 : IntR W1 (.slice (some ⟨w.heap.size, 0, none⟩) 3 3) [0, 2, 1] := by rw [← hW1]; exact intR_new w [0, 2, 1] 3
  have HC := Lib.hid (tfirst_any l [0, 2, 1] 2 v _ W1 (intR_below h k1) x1 hl (by decide))
  obtain ⟨a, c, rfl, _⟩ := h
  have HW := Lib.hid hW1
  have HB := Lib.hid k1
  unfold leastT
  obtain ⟨R, hR⟩ : ∃ R, firT l 2 [0, 2, 1] = R := ⟨_, rfl⟩
  rw [hR] at HC ⊢
  clear hW1 k1 x1 hR
  go_enter Try.func12, Try.ntmps12
  go_wp2_with fail
  rw [HW.out]
  refine HC.out.mono ?_
  rintro en w5 ⟨rfl, hb5⟩
  have HB5 := Lib.hid (HB.out.trans (hb5.mono HB.out.size))
  clear hb5
  go_wp2
  go_ret
  exact retI_mk rfl HB5.out
end Go.Proofs.Ytpnmhghjpmkilaa
