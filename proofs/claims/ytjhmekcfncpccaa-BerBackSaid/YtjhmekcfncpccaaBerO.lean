/- Two rows that hold the same tags and bytes are the same to the document's Same, as long as they are no longer than a slice may be. -/
import Derived.Test.YtjhmekcfncpccaaBerN
namespace Go.Proofs.Ytjhmekcfncpccaa
open Go.RowKit Go.Proofs.BerM Go.Proofs.BerK

theorem tc_at : ∀ (L : List (Nat × List UInt8)) (i : Nat) (h : i < L.length), (tc L)[2 * i]? = some (.int .i64 (L[i].1 : Int)) ∧ (tc L)[2 * i + 1]? = some (.string ⟨L[i].2.toArray⟩) := by
  intro L
  induction L with
  | nil => intro i h; simp at h
  | cons x L ih =>
    intro i h
    cases i with
    | zero => simp [tc]
    | succ i =>
      have := ih i (by simpa using h)
      have e : tc (x :: L) = .int .i64 (x.1 : Int) :: .string ⟨x.2.toArray⟩ :: tc L := by simp [tc]
      rw [e, show 2 * (i + 1) = 2 * i + 1 + 1 by omega]
      simpa using this
theorem ownsRow_cells {w : World} {B : Nat} {v : Value} {L : List (Nat × List UInt8)} (h : w.ownsRow B 34 2 v L.length (tc L)) (hL : 0 < L.length) :
    ∃ g c, v = .slice (some ⟨g, 0, none⟩) L.length c ∧ L.length ≤ c ∧ ∀ i (hi : i < L.length), w.cell? ⟨g, i * 2, none⟩ = some (.int .i64 (L[i].1 : Int)) ∧ w.cell? ⟨g, i * 2 + 1, none⟩ = some (.string ⟨L[i].2.toArray⟩) := by
  rcases h.2 with ⟨_, h2⟩ | ⟨g, cap, cur, rfl, _, _, hc, _⟩
  · omega
  · refine ⟨g, cap, rfl, hc, fun i hi => ?_⟩
    have hcl := h.cells (g := g) rfl
    have ht := tc_at L i hi
    have a := hcl (2 * i) _ ht.1
    have b := hcl (2 * i + 1) _ ht.2
    rw [Addr.add_lit, Nat.zero_add] at a b
    rw [Nat.mul_comm i 2]
    exact ⟨a, b⟩

set_option maxHeartbeats 800000 in
set_option maxRecDepth 100000 in
theorem same_any (B1 B2 : Nat) (v1 v2 : Value) (L : List (Nat × List UInt8)) (w : World) (h1 : w.ownsRow B1 34 2 v1 L.length (tc L)) (h2 : w.ownsRow B2 34 2 v2 L.length (tc L)) (hL : L.length ≤ maxLen) :
    Calls Try.prog 16 #[v1, v2] w fun e w' => e = .returned (.bool true) ∧ ∃ n, w' = w.drewN n := by
  unfold maxLen at hL
  by_cases h0 : L.length = 0
  · obtain ⟨a1, c1, rfl⟩ := ownsRow_slice h1
    obtain ⟨a2, c2, rfl⟩ := ownsRow_slice h2
    rw [h0]
    clear h1 h2 h0 hL
    go_enter Try.func16, Try.ntmps16
    go_wp2
    go_loop [5] (fun v5 => v5 = .int .i64 0) (fun _ => 0)
    case atStart => rfl
    case round =>
      obtain rfl := hrel
      go_wp2
      go_ret
      exact ⟨rfl, 0, rfl⟩
  · obtain ⟨g1, c1, rfl, hc1, hq1⟩ := ownsRow_cells h1 (by omega)
    obtain ⟨g2, c2, rfl, hc2, hq2⟩ := ownsRow_cells h2 (by omega)
    have HQ1 := Lib.hid hq1
    have HQ2 := Lib.hid hq2
    clear h1 h2 hq1 hq2
    go_enter Try.func16, Try.ntmps16
    go_wp2
    go_loopw [5] (fun v5 wr => ∃ k q : Nat, v5 = .int .i64 k ∧ k ≤ L.length ∧ wr = w.drewN q) (fun v5 _ => L.length - (intOf v5).toNat)
    case atStart => exact ⟨0, 0, rfl, Nat.zero_le _, rfl⟩
    case round =>
      obtain ⟨k, q, rfl, hk, rfl⟩ := hrel
      by_cases hlt : k < L.length
      · obtain ⟨ha0, ha1⟩ := HQ1.out k hlt
        obtain ⟨hb0, hb1⟩ := HQ2.out k hlt
        have hi0 : (0 : Int) ≤ k := by omega
        have hi1 : (k : Int) < (L.length : Int) := by omega
        go_wp2
        go_quiet (fail)
        go_wp2
        exact ⟨⟨k + 1, q + nq, by go_num, by omega, rfl⟩, by simp [intOf]; omega⟩
      · go_wp2
        go_ret
        exact ⟨rfl, q, rfl⟩
end Go.Proofs.Ytjhmekcfncpccaa
