/- Are two lists of texts the same: for all lists. -/
import Derived.Test.YtpkbgkoocijegaaGreatDoorGenA
import Derived.Test.YtpkbgkoocijegaaGreatDoorSnAL
set_option linter.unusedVariables false
set_option linter.unusedSimpArgs false
set_option maxHeartbeats 25600000
set_option maxRecDepth 100000
namespace Go.Proofs.YtpkbgkoocijegaaGreatDoor
open Go Go.RowKit Go.Proofs.BerK Go.Proofs.MemK Go.Proofs.UtfK
theorem textr_any (l1 l2 : List (List UInt8)) (v1 v2 : Value) (w : World) (h1 : TxR w v1 l1) (h2 : TxR w v2 l2) (hl : l1.length <= 1000000) (hl2 : l2.length <= 1000000) :
  Calls Tryz.prog 23 #[v1, v2] w (BB (decide (l1 = l2)) w) := by
 obtain ⟨a1, c1, rfl, hq1⟩ := h1
 obtain ⟨a2, c2, rfl, hq2⟩ := h2
 have HQ1 := Hy hq1
 have HQ2 := Hy hq2
 obtain ⟨R, hR⟩ : ∃ R, decide (l1 = l2) = R := ⟨_, rfl⟩
 have HR := Hy hR
 rw [hR]
 obtain ⟨n, hn⟩ : ∃ n, l1.length = n := ⟨_, rfl⟩
 obtain ⟨m, hm⟩ : ∃ n, l2.length = n := ⟨_, rfl⟩
 have HL := Hy (An hn hm)
 rw [hn] at hl ⊢
 rw [hm] at hl2 ⊢
 clear hq1 hq2 hR hn hm
 by_cases hnm : n = m
 ·subst hnm
  go_enter Tryz.func23, Tryz.ntmps23
  go_wp2
  go_loopw [5] (fun v5 wr => ∃ k q : Nat, v5 = .int .i64 k /\ k <= n /\ wr = w.drewN q /\ ∀ j (h1 : j < l1.length) (h2 : j < l2.length), j < k -> l1[j] = l2[j]) (fun v5 _ => n - (intOf v5).toNat)
  case atStart => exact ⟨0, 0, rfl, Nat.zero_le _, rfl, fun j _ _ h => by omega⟩
  case round =>
   obtain ⟨k, q, rfl, hk, rfl, hall⟩ := hrel
   by_cases hlt : k < n
   ·have hk1 : k < l1.length := by rw [HL.out.1]; exact hlt
    have hk2 : k < l2.length := by rw [HL.out.2]; exact hlt
    obtain ⟨g1, o1, rfl, hg1, e1⟩ := HQ1.out k hk1
    obtain ⟨g2, o2, rfl, hg2, e2⟩ := HQ2.out k hk2
    have HNx := Hy (fun (hx : l1[k] = l2[k]) j (h1 : j < l1.length) (h2 : j < l2.length) (h : j < k + 1) => (show l1[j] = l2[j] by
     by_cases e : j = k
     ·subst e; exact hx
     ·exact hall j h1 h2 (by omega)))
    have HNo := Hy (fun (hx : l1[k] ≠ l2[k]) => (show l1 ≠ l2 from fun e => hx (by subst e; rfl)))
    obtain ⟨x, hx⟩ : ∃ x, l1[k] = x := ⟨_, rfl⟩
    obtain ⟨y, hy⟩ : ∃ x, l2[k] = x := ⟨_, rfl⟩
    have HXY := Hy (An hx hy)
    rw [hx] at e1
    rw [hy] at e2
    clear hx hy hall
    have hi1 : (k : Int) < (n : Int) := by omega
    cases hxy : (x == y)
    ·have HRf := Hy (show R = false by
      rw [<- HR.out, decide_eq_false_iff_not]
      exact HNo.out (by rw [HXY.out.1, HXY.out.2]; simpa using hxy))
     go_wp2
     go_quiet (fail)
     go_wp2
     go_ret
     exact bB_mk HRf.out (below_dn (below_dn (Below.refl _ _) _) _)
    ·have HN := Hy (HNx.out (by rw [HXY.out.1, HXY.out.2]; simpa using hxy))
     go_wp2
     go_quiet (fail)
     go_wp2
     exact ⟨⟨k + 1, q + nq, by go_num, by omega, rfl, HN.out⟩, by simp [intOf]; omega⟩
   ·obtain rfl : k = n := by omega
    have HRt := Hy (show R = true by
     rw [<- HR.out, decide_eq_true_eq]
     exact List.ext_getElem (by rw [HL.out.1, HL.out.2]) (fun j h1 h2 => hall j h1 h2 (by rw [<- HL.out.1]; exact h1)))
    clear hall
    go_wp2
    go_ret
    exact bB_mk HRt.out (below_dn (Below.refl _ _) _)
 ·have HRf := Hy (show R = false by
   rw [<- HR.out, decide_eq_false_iff_not]
   intro e
   subst e
   exact hnm (by rw [<- HL.out.1, <- HL.out.2]))
  have q1 : ((n : Int) != (m : Int)) = true := by rw [bne_iff_ne]; omega
  clear hnm
  go_enter Tryz.func23, Tryz.ntmps23
  go_wp2
  go_ret
  exact bB_mk HRf.out (Below.refl _ _)
end Go.Proofs.YtpkbgkoocijegaaGreatDoor
