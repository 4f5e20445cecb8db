/- The document's bytes of a length are the shortest ones, for every number below two to the thirty-second. -/
import Derived.Test.YtlnfbjgadcifkaaDoorBerB
import Derived.Lib.AppendStr
import Derived.Laws.IdiomStrings
namespace Go.Proofs.YtlnfbjgadcifkaaDoor
open Go.RowKit Go.Proofs.BerM Go.Proofs.BerK

set_option maxHeartbeats 400000 in
set_option maxRecDepth 100000 in
theorem length_small (n : Nat) (w : World) (h : n < 128) :
    Calls Tryd.prog 42 #[.int .i64 n] w fun e w' => e = .returned (.string ⟨(lenB n).toArray⟩) ∧ Below w.heap.size w w' := by
  have hc := conv_one (P := Tryd.prog) 84 9 5 Tryd.underlying84 Tryd.underlying5 Tryd.underlying9
  go_enter Tryd.func42, Tryd.ntmps42
  go_wp2
  go_ret
  exact ⟨ret_str (a := [_]) (by simp [lenB, h]), (Below.refl _ _).alloc (Nat.le_refl _) _⟩

set_option maxHeartbeats 400000 in
set_option maxRecDepth 100000 in
theorem length_big (n : Nat) (w : World) (h : 128 ≤ n) (h4 : n < 4294967296) :
    Calls Tryd.prog 42 #[.int .i64 n] w fun e w' => e = .returned (.string ⟨(lenB n).toArray⟩) ∧ Below w.heap.size w w' := by
  have hc := conv_one (P := Tryd.prog) 84 9 5 Tryd.underlying84 Tryd.underlying5 Tryd.underlying9
  go_enter Tryd.func42, Tryd.ntmps42
  go_wp2
  go_loopw [0, 3, 4] (fun v0 v3 v4 wr => ∃ (m : Nat) (l : List UInt8), v0 = .int .i64 m ∧ v3 = .string ⟨l.toArray⟩ ∧ v4 = .int .i64 (l.length : Int) ∧ m ≤ n ∧ beF m ++ l = beF n ∧ Below w.heap.size w wr) (fun v0 _ _ _ => (intOf v0).toNat)
  case atStart => exact ⟨n, [], rfl, rfl, rfl, Nat.le_refl _, by simp, Below.refl _ _⟩
  case round =>
    obtain ⟨m, l, rfl, rfl, rfl, hm, hb, hw⟩ := hrel
    have hl : l.length ≤ 4 := by
      have h1 := beF_len_le 4 n (by omega)
      rw [← hb] at h1; simp at h1; omega
    by_cases h0 : 0 < m
    · have hp := beF_pos m h0
      have HB : Hid (beF (m / 256) ++ (UInt8.ofNat m :: l) = beF n) := by rw [hp] at hb; unfold Hid; rw [← hb]; simp
      clear hb hp
      go_wp2
      refine ⟨⟨m / 256, UInt8.ofNat m :: l, by go_num, by rw [cat_one, ofNat_mod], by go_num, by omega, HB.out, hw.alloc hw.size _⟩, ?_⟩
      simp [intOf]; omega
    · have hm0 : m = 0 := by omega
      have HN : Hid (l = beF n) := by unfold Hid; subst hm0; rw [beF_zero] at hb; simpa using hb
      clear hb
      go_wp2
      go_ret
      refine ⟨?_, hw.alloc hw.size _⟩
      rw [cat_one]
      refine ret_str ?_
      have e := HN.out
      rw [lenB, if_neg (by omega), ← e]
      simp
end Go.Proofs.YtlnfbjgadcifkaaDoor
