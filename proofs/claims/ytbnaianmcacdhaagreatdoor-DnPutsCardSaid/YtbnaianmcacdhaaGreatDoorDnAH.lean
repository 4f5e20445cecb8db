/- Whether a name is among the few that are asked of. -/
import Derived.Test.YtbnaianmcacdhaaGreatDoorDnG
namespace Go.Proofs.YtbnaianmcacdhaaGreatDoor
set_option linter.unusedSimpArgs false
set_option linter.unusedVariables false
open Go Go.RowKit Go.Proofs.BerK Go.Proofs.MemK Go.Proofs.UtfK

def fewP (p : Av) : Bool := decide (p.1.length ≤ 70) && decide (p.2.length ≤ 300)
def fewR (r : List Av) : Bool := decide (r.length ≤ 10) && r.all fewP
def fewD (d : List (List Av)) : Bool := decide (d.length ≤ 34) && d.all fewR
theorem fewD_facts {d : List (List Av)} (h : fewD d = true) : d.length ≤ 34 ∧ ∀ r ∈ d, r.length ≤ 10 ∧ ∀ p ∈ r, p.1.length ≤ 70 ∧ p.2.length ≤ 300 := by
  simp only [fewD, fewR, fewP, Bool.and_eq_true, decide_eq_true_eq, List.all_eq_true] at h
  exact ⟨h.1, fun r hr => ⟨(h.2 r hr).1, fun p hp => (h.2 r hr).2 p hp⟩⟩

set_option maxHeartbeats 3200000 in
set_option maxRecDepth 100000 in
theorem dfew_any (v : Value) (d : List (List Av)) (w : World) (h : DnAt w v d) :
    Calls Tryz.prog 5 #[v] w (BoolPost (fewD d) w) := by
  obtain ⟨a, c, hv, hcap, hcells⟩ := id h
  subst hv
  by_cases h34 : 34 < d.length
  · have hi : (34 : Int) < (d.length : Int) := by omega
    have hf : fewD d = false := by simp only [fewD, Bool.and_eq_false_iff, decide_eq_false_iff_not]; exact .inl (by omega)
    have HF := Lib.hid hf
    clear hcells h hf hcap
    go_enter Tryz.func5, Tryz.ntmps5
    go_wp2
    go_ret
    exact boolPost_mk HF.out (Below.refl _ _)
  have hd : fewD d = d.all fewR := by simp only [fewD]; rw [decide_eq_true (by omega), Bool.true_and]
  have HC := Lib.hid (And.intro hcells hd)
  clear hcells hd h hcap
  obtain ⟨n, hn⟩ : ∃ n, d.length = n := ⟨_, rfl⟩
  rw [hn] at h34 ⊢
  have hi34 : ¬ (34 : Int) < (n : Int) := by omega
  go_enter Tryz.func5, Tryz.ntmps5
  go_wp2
  go_loopw [3] (fun v wr => ∃ i : Nat, i ≤ n ∧ v = .int .i64 (i : Nat) ∧ wr = w ∧ fewD d = (d.drop i).all fewR) (fun v _ => n - (intOf v).toNat)
  case atStart => exact ⟨0, Nat.zero_le _, rfl, rfl, HC.out.2⟩
  case round =>
    obtain ⟨i, hi, rfl, hwr, hinv⟩ := hrel
    obtain rfl := hwr.symm
    by_cases hlt : i < n
    · have hil : (i : Int) < (n : Int) := by omega
      obtain ⟨g, o, u, rfl, hg, c1, hu⟩ := HC.out.1 i (by omega)
      rw [drop_at d i (by omega), List.all_cons] at hinv
      obtain ⟨r, hr⟩ : ∃ r, d[i]'(by omega) = r := ⟨_, rfl⟩
      rw [hr] at hu hinv
      obtain ⟨ua, uc, rfl, hucap, hucl⟩ := id hu
      have HU := Lib.hid (And.intro hucl (And.intro hinv hr))
      obtain ⟨k, hk⟩ : ∃ k, r.length = k := ⟨_, rfl⟩
      rw [hk] at c1 hucap
      clear hu hucl hinv
      by_cases h10 : 10 < k
      · have hi10 : (10 : Int) < (k : Int) := by omega
        have hf : fewD d = false := by
          rw [HU.out.2.1]
          simp only [fewR, Bool.and_eq_false_iff, decide_eq_false_iff_not]; exact .inl (.inl (by omega))
        have HF := Lib.hid hf
        clear hf
        go_wp2
        go_ret
        exact boolPost_mk HF.out (Below.refl _ _)
      have hi10 : ¬ (10 : Int) < (k : Int) := by omega
      have hrr : fewR r = r.all fewP := by simp only [fewR]; rw [decide_eq_true (by omega), Bool.true_and]
      have HR := Lib.hid hrr
      clear hrr
      go_wp2
      go_loopw [4] (fun v wr => ∃ j : Nat, j ≤ k ∧ v = .int .i64 (j : Nat) ∧ wr = w ∧ fewR r = (r.drop j).all fewP) (fun v _ => k - (intOf v).toNat)
      case atStart => exact ⟨0, Nat.zero_le _, rfl, rfl, HR.out⟩
      case round =>
        obtain ⟨j, hj, rfl, hwr, hinv⟩ := hrel
        obtain rfl := hwr.symm
        by_cases hlj : j < k
        · have hjk : (j : Int) < (k : Int) := by omega
          obtain ⟨g2, o2, rfl, hg2, e1, e2⟩ := HU.out.1 j (by omega)
          rw [drop_at r j (by omega), List.all_cons] at hinv
          obtain ⟨p, hp⟩ : ∃ p, r[j]'(by omega) = p := ⟨_, rfl⟩
          rw [hp] at e1 e2 hinv
          obtain ⟨T, V⟩ := p
          have HI := Lib.hid hinv
          clear hinv
          by_cases h70 : 70 < T.length
          · have hb1 : (70 : Int) < ((⟨T.toArray⟩ : ByteArray).size : Int) := by show (70 : Int) < (T.length : Int); omega
            have hb2 : (70 : Int) < (T.length : Int) := by omega
            have HF := Lib.hid (show fewD d = false by
              rw [HU.out.2.1, HI.out]
              simp only [fewP, Bool.and_eq_false_iff, decide_eq_false_iff_not]; exact .inl (.inl (.inl (by show ¬ T.length ≤ 70; omega))))
            go_wp2
            go_ret
            exact boolPost_mk HF.out (Below.refl _ _)
          have hb1 : ¬ (70 : Int) < ((⟨T.toArray⟩ : ByteArray).size : Int) := by show ¬ (70 : Int) < (T.length : Int); omega
          have hb2 : ¬ (70 : Int) < (T.length : Int) := by omega
          by_cases h300 : 300 < V.length
          · have hb3 : (300 : Int) < ((⟨V.toArray⟩ : ByteArray).size : Int) := by show (300 : Int) < (V.length : Int); omega
            have hb4 : (300 : Int) < (V.length : Int) := by omega
            have HF := Lib.hid (show fewD d = false by
              rw [HU.out.2.1, HI.out]
              simp only [fewP, Bool.and_eq_false_iff, decide_eq_false_iff_not]; exact .inl (.inl (.inr (by show ¬ V.length ≤ 300; omega))))
            go_wp2
            go_ret
            exact boolPost_mk HF.out (Below.refl _ _)
          have hb3 : ¬ (300 : Int) < ((⟨V.toArray⟩ : ByteArray).size : Int) := by show ¬ (300 : Int) < (V.length : Int); omega
          have hb4 : ¬ (300 : Int) < (V.length : Int) := by omega
          have HF := Lib.hid (show fewR r = (r.drop (j + 1)).all fewP by
            rw [HI.out]
            have : fewP (T, V) = true := by simp only [fewP, Bool.and_eq_true, decide_eq_true_eq]; exact ⟨by omega, by omega⟩
            rw [this, Bool.true_and])
          go_wp2
          exact ⟨⟨j + 1, by omega, by go_num, trivial, HF.out⟩, by simp [intOf]; omega⟩
        · obtain rfl : j = k := by omega
          have HF := Lib.hid (show fewD d = (d.drop (i + 1)).all fewR by
            rw [HU.out.2.1, hinv, List.drop_of_length_le (by omega)]; simp)
          clear hinv
          go_wp2
          exact ⟨⟨i + 1, by omega, by go_num, trivial, HF.out⟩, by simp [intOf]; omega⟩
    · obtain rfl : i = n := by omega
      have HF := Lib.hid (show fewD d = true by rw [hinv, List.drop_of_length_le (by omega)]; rfl)
      clear hinv
      go_wp2
      go_ret
      exact boolPost_mk HF.out (Below.refl _ _)
end Go.Proofs.YtbnaianmcacdhaaGreatDoor
