/- The walk of the law ControlFinds: it returns true and leaves what was in memory as it was. -/
import Derived.Test.YtlnfbjgadcifkaaDoorCtL
namespace Go.Proofs.YtlnfbjgadcifkaaDoor
set_option linter.unusedSimpArgs false
set_option linter.unusedVariables false
open Go Go.RowKit Go.Proofs.BerM Go.Proofs.BerK Go.Proofs.MemK Go.Proofs.NumM

set_option maxHeartbeats 6400000 in
set_option maxRecDepth 100000 in
theorem cfinds_walk (L : List Ct) (a : Option Addr) (c : Nat) (w : World) (h : CoAt w (.slice a L.length c) L) (hl : L.length ≤ maxLen) (hv : ∀ r ∈ L, r.1.length ≤ maxLen ∧ r.2.2.length ≤ maxLen) :
    Calls Tryd.prog 5 #[.slice a L.length c] w fun e w' => e = .returned (.bool true) ∧ Below w.heap.size w w' := by
  have HAw := Lib.hid (fun w' => cawake_any w')
  unfold maxLen at hl
  by_cases h20 : (20 : Int) < (L.length : Int)
  · clear h hv
    go_enter Tryd.func5, Tryd.ntmps5
    go_wp2_with fail
    refine (HAw.out _).mono ?_
    rintro en w5 ⟨rfl, hb5⟩
    have H5 := Lib.hid hb5
    clear hb5
    go_wp2
    go_ret
    exact ⟨rfl, H5.out⟩
  · have HM := Lib.hid (fun i hi => coAt_three h i hi)
    have HF1 := Lib.hid (fun w' (hb : Below w.heap.size w w') => cfind_any L _ w' (coAt_below h hb) (by omega) (fun r hr => (hv r hr).2))
    have HF2 := Lib.hid (fun w' (hb : Below w.heap.size w w') => rcfind_any L _ w' (coAt_below h hb) (by omega) (fun r hr => (hv r hr).2))
    have HVl := Lib.hid hv
    obtain ⟨⟨⟨pt, pc, pr⟩, pf, pe⟩, e1⟩ : ∃ q, fiP L = q := ⟨_, rfl⟩
    rw [e1] at HF1 HF2
    obtain ⟨n, hn⟩ : ∃ n, L.length = n := ⟨_, rfl⟩
    have HL := Lib.hid hn
    rw [hn] at HF1 HF2 hl h20 ⊢
    clear h hv e1 hn
    go_enter Tryd.func5, Tryd.ntmps5
    go_wp2
    go_loopw [3] (fun v wr => ∃ k : Nat, k ≤ n ∧ v = .int .i64 (k : Nat) ∧ wr = w) (fun v _ => n - (intOf v).toNat)
    case atStart => exact ⟨0, by omega, rfl, rfl⟩
    case round =>
      obtain ⟨k, hk, rfl, hww⟩ := hrel
      obtain rfl := hww.symm
      by_cases hlt : k < n
      · have hkl : (k : Int) < (n : Int) := by omega
        have hi0 : (0 : Int) ≤ k := by omega
        have hkm : k < L.length := by rw [HL.out]; exact hlt
        obtain ⟨g, o, rfl, hg, e0, e1, e2⟩ := HM.out k hkm
        have hvl := HVl.out L[k] (List.getElem_mem hkm)
        obtain ⟨x, hx⟩ : ∃ x, L[k].1 = x := ⟨_, rfl⟩
        obtain ⟨z, hz⟩ : ∃ z, L[k].2.2 = z := ⟨_, rfl⟩
        rw [hx] at e0 hvl
        rw [hz] at e2 hvl
        obtain ⟨hv1, hv2⟩ := hvl
        unfold maxLen at hv1 hv2
        clear hx hz hg
        have hw : ((100 : Int) < (x.length : Int)) ∨ (¬ (100 : Int) < (x.length : Int) ∧ (300 : Int) < (z.length : Int)) ∨ (¬ (100 : Int) < (x.length : Int) ∧ ¬ (300 : Int) < (z.length : Int)) := by omega
        rcases hw with r1 | ⟨r1, r2⟩ | ⟨r1, r2⟩
        · go_wp2_with fail
          refine (HAw.out _).mono ?_
          rintro en w5 ⟨rfl, hb5⟩
          have H5 := Lib.hid hb5
          clear hb5
          go_wp2
          go_ret
          exact ⟨rfl, H5.out⟩
        · go_wp2_with fail
          refine (HAw.out _).mono ?_
          rintro en w5 ⟨rfl, hb5⟩
          have H5 := Lib.hid hb5
          clear hb5
          go_wp2
          go_ret
          exact ⟨rfl, H5.out⟩
        · go_wp2
          exact ⟨⟨k + 1, by omega, by go_num, by first | rfl | trivial⟩, by simp [intOf]; omega⟩
      · obtain rfl : k = n := by omega
        go_wp2_with fail
        refine (HF1.out _ (Below.refl _ _)).mono ?_
        rintro en v1 ⟨rfl, hb⟩
        have H1 := Lib.hid (hb.alloc hb.size (.cells #[.int .i64 pt, .bool pc, .bool pr] 23))
        have HS := Lib.hid hb.size
        clear hb
        go_wp2_with fail
        refine (HF2.out _ H1.out).mono ?_
        rintro en v2 ⟨rfl, hb⟩
        have hp := obj_below (heap_alloc_new v1 _) hb (by simp)
        have H2 := Lib.hid ((H1.out.trans (hb.mono H1.out.size)).alloc (by have := H1.out.size; have := hb.size; omega) (.cells #[.int .i64 pt, .bool pc, .bool pr] 23))
        clear hb
        have p0 := fun ob => obj_cell (obj_alloc hp ob) 0 _ rfl
        have p1 := fun ob => obj_cell (obj_alloc hp ob) 1 _ rfl
        have p2 := fun ob => obj_cell (obj_alloc hp ob) 2 _ rfl
        clear hp
        go_wp2_with fail
        refine (HAw.out _).mono ?_
        rintro en w5 ⟨rfl, hb5⟩
        have H5 := Lib.hid (H2.out.trans (hb5.mono H2.out.size))
        clear hb5
        go_wp2
        go_ret
        exact ⟨rfl, H5.out⟩
end Go.Proofs.YtlnfbjgadcifkaaDoor
