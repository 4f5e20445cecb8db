/- The document's Head tells what the plain function hd tells, for every text that is no longer than a text may be. -/
import Derived.Test.YtlnfbjgadcifkaaDoorBerH
namespace Go.Proofs.YtlnfbjgadcifkaaDoor
open Go.RowKit Go.Proofs.BerM Go.Proofs.BerK

set_option maxHeartbeats 1000000 in
set_option maxRecDepth 100000 in
theorem rhd_rest (s : ByteArray) (w : World) (h0 : 1 < s.size) (hm : s.size ≤ maxLen) (k : Nat) (hk : s[1].toNat = 128 + k) (hk0 : 0 < k) (hk4 : k ≤ 4) (hc : 2 + k ≤ s.size) (ht : tagB (s[0].toNat : Int) = true) (t n m e : Nat) (h : hd s.data.toList = (t, n, m, e)) :
    Calls Tryd.prog 51 #[.string s] w fun en w' => en = .returned (.tuple #[.int .i64 t, .int .i64 n, .int .i64 m, .int .i64 e]) ∧ Below w.heap.size w w' := by
  unfold maxLen at hm
  have hb : s[0].toNat < 256 := s[0].toNat_lt
  have hse := not_empty s (by omega)
  have hne1 : ((s.size : Int) == 1) = false := beq_eq_false_iff_ne.2 (by omega)
  have h128 : ((128 + (k : Int)) == 128) = false := beq_eq_false_iff_ne.2 (by omega)
  have ek : (128 + (k : Int) - 128) = k := by omega
  obtain ⟨A, hA⟩ : ∃ A : Nat → Nat, ∀ j, A j = natOf ((s.data.toList.drop 2).take j) := ⟨_, fun _ => rfl⟩
  have hA0 : A 0 = 0 := by rw [hA]; rfl
  have hAs : ∀ j (hj : j < k), A (j + 1) = 256 * A j + (s[2 + j]'(by omega)).toNat := by
    intro j hj
    rw [hA, hA, List.take_succ_eq_append_getElem (by rw [List.length_drop, len_list]; omega), natOf_snoc]
    simp; rfl
  have hAb : ∀ j, j ≤ 4 → A j < 4294967296 := by
    intro j hj
    rw [hA]
    have h5 := natOf_lt ((s.data.toList.drop 2).take j)
    have h6 : ((s.data.toList.drop 2).take j).length ≤ j := List.length_take_le _ _
    have h7 : 256 ^ ((s.data.toList.drop 2).take j).length ≤ 256 ^ 4 := Nat.pow_le_pow_right (by omega) (by omega)
    omega
  have HA0 := Lib.hid hA0
  have HAs := Lib.hid hAs
  have HAb := Lib.hid hAb
  have HH := Lib.hid h
  have HA := Lib.hid hA
  clear hA0 hAs hAb h hA
  go_enter Tryd.func51, Tryd.ntmps51
  go_wp2_with fail
  refine (tagged_any _ _).mono ?_
  rw [ht]
  rintro e w' ⟨rfl, rfl⟩
  go_wp2
  go_loop [7, 8] (fun v7 v8 => ∃ j : Nat, j ≤ k ∧ v8 = .int .i64 (2 + (j : Int)) ∧ v7 = .int .i64 (A j)) (fun _ v8 => 2 + k - (intOf v8).toNat)
  case atStart => exact ⟨0, by omega, rfl, by rw [HA0.out]; rfl⟩
  case round =>
    obtain ⟨j, hj, rfl, rfl⟩ := hrel
    have hab := HAb.out j (by omega)
    by_cases hlt : j < k
    · have hs := HAs.out j hlt
      have HS := Lib.hid hs
      clear hs
      have hb2 : (s[2 + j]'(by omega)).toNat < 256 := (s[2 + j]'(by omega)).toNat_lt
      go_wp2
      refine ⟨⟨j + 1, by omega, by go_num, by rw [HS.out]; go_num⟩, ?_⟩
      simp [intOf]; omega
    · have ejk : j = k := by omega
      subst ejk
      have hw2 : IntKind.i64.wrap (2 + (j : Int)) = 2 + (j : Int) := IntWalk.i64_in _ (by omega)
      have hsl := fun w : World => run_slice_string (P := Tryd.prog) w 9 s .i64 .i64 1 (2 + (j : Int)) Tryd.underlying9 (by omega) (by omega) (by omega)
      have hbs : ((s.data.toList.drop 2).take j).length = j := by rw [List.length_take, List.length_drop, len_list]; omega
      have hd1 : (s.data.toList.drop 1).drop 1 = s.data.toList.drop 2 := by rw [List.drop_drop]
      have hex : (s.extract 1 (2 + j)).toList = UInt8.ofNat (128 + j) :: (s.data.toList.drop 2).take j := by
        rw [ByteArray.toList_eq, ext_data, show 2 + j - 1 = j + 1 by omega, List.drop_eq_getElem_cons (by rw [len_list]; omega), List.take_succ_cons]
        congr 1
        apply UInt8.toNat_inj.1
        have : s.data.toList[1]'(by rw [len_list]; omega) = s[1] := rfl
        rw [this, hk]; simp; omega
      have hiff := lenB_eq_iff (A j) j _ hbs (HA.out j).symm hk0
      rw [← hex] at hiff
      have hrl : rl (s.data.toList.drop 1) = if moreN (A j) ≠ j then (0, 0, 5) else if 65536 < A j then (0, 0, 3) else (A j, 1 + j, 0) := by
        rw [rl, drop_get s h0, hk, if_neg (by omega), if_neg (by omega), if_neg (by rw [List.length_drop, len_list]; omega), Nat.add_sub_cancel_left, hd1, ← HA.out j]
      have etn : (2 + (j : Int)).toNat = 2 + j := by omega
      by_cases q1 : moreN (A j) = j
      · have e1 : (lenB (A j) == (s.extract 1 (2 + j)).toList) = true := by simpa using hiff.2 q1
        rw [if_neg (by simpa using q1)] at hrl
        clear hiff hex hd1 hbs q1
        by_cases q3 : 65536 < A j
        · rw [if_pos q3] at hrl
          have HV := Lib.hid (hd_err s h0 ht t n m e 0 0 3 (by omega) hrl HH.out)
          clear hrl
          go_wp2
          go_region_with (go_at_call 42; refine (length_any (A j) _ hab).mono ?_; rintro e w1 ⟨rfl, hb1⟩)
          go_wp2
          refine bodyPost_ret (v := .tuple #[.int .i64 (0 : Nat), .int .i64 (0 : Nat), .int .i64 (0 : Nat), .int .i64 (3 : Nat)]) (by simp [results, Tryd.results51, go_sem]) rfl ⟨ret4 HV.out, (Below.refl _ _).drew.trans hb1⟩
        · rw [if_neg q3] at hrl
          have HV := Lib.hid (hd_ok s h0 ht t n m e (A j) (1 + j) hrl HH.out)
          clear hrl
          go_wp2
          go_region_with (go_at_call 42; refine (length_any (A j) _ hab).mono ?_; rintro e w1 ⟨rfl, hb1⟩)
          go_wp2
          refine bodyPost_ret (v := .tuple #[.int .i64 (s[0].toNat : Nat), .int .i64 (A j : Nat), .int .i64 (1 + (1 + j) : Nat), .int .i64 (0 : Nat)]) (by simp [results, Tryd.results51, go_sem]; omega) rfl ⟨ret4 HV.out, (Below.refl _ _).drew.trans hb1⟩
      · have e1 : (lenB (A j) == (s.extract 1 (2 + j)).toList) = false := by
          rw [beq_eq_false_iff_ne]; exact fun e => q1 (hiff.1 e)
        rw [if_pos (by simpa using q1)] at hrl
        clear hiff hex hd1 hbs q1
        have HV := Lib.hid (hd_err s h0 ht t n m e 0 0 5 (by omega) hrl HH.out)
        clear hrl
        go_wp2
        go_region_with (go_at_call 42; refine (length_any (A j) _ hab).mono ?_; rintro e w1 ⟨rfl, hb1⟩)
        go_wp2
        refine bodyPost_ret (v := .tuple #[.int .i64 (0 : Nat), .int .i64 (0 : Nat), .int .i64 (0 : Nat), .int .i64 (5 : Nat)]) (by simp [results, Tryd.results51, go_sem]) rfl ⟨ret4 HV.out, (Below.refl _ _).drew.trans hb1⟩

theorem rhd_any (s : ByteArray) (w : World) (hm : s.size ≤ maxLen) (t n m e : Nat) (h : hd s.data.toList = (t, n, m, e)) :
    Calls Tryd.prog 51 #[.string s] w fun en w' => en = .returned (.tuple #[.int .i64 t, .int .i64 n, .int .i64 m, .int .i64 e]) ∧ Below w.heap.size w w' := by
  by_cases h0 : s.size = 0
  · exact rhd_none s w h0 t n m e h
  · by_cases ht : tagB (s[0].toNat : Int) = true
    · by_cases h1 : s.size = 1
      · exact rhd_one s w h1 ht t n m e h
      · by_cases h2 : s[1].toNat < 128
        · exact rhd_small s w (by omega) h2 ht t n m e h
        · by_cases h3 : s[1].toNat = 128 ∨ 132 < s[1].toNat
          · exact rhd_form s w (by omega) h3 ht t n m e h
          · obtain ⟨k, hk⟩ : ∃ k, s[1].toNat = 128 + k := ⟨s[1].toNat - 128, by omega⟩
            by_cases h4 : s.size < 2 + k
            · exact rhd_cut s w (by omega) hm k hk (by omega) (by omega) h4 ht t n m e h
            · exact rhd_rest s w (by omega) hm k hk (by omega) (by omega) (by omega) ht t n m e h
    · exact rhd_tag s w (by omega) (by simpa using ht) t n m e h
end Go.Proofs.YtlnfbjgadcifkaaDoor
