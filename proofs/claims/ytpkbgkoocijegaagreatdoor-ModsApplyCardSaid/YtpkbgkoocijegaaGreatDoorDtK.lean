/- Whether an entry has the values of its own part, and what is asked of it wherever it stands. -/
import Derived.Test.YtpkbgkoocijegaaGreatDoorDtAC
import Derived.Test.YtpkbgkoocijegaaGreatDoorEnCE
import Derived.Test.YtpkbgkoocijegaaGreatDoorSnUW
import Derived.Test.YtpkbgkoocijegaaGreatDoorPlAC
import Derived.Test.YtpkbgkoocijegaaGreatDoorDqG
import Derived.Test.YtpkbgkoocijegaaGreatDoorEnHO
set_option linter.unusedVariables false
set_option linter.unusedSimpArgs false
set_option maxHeartbeats 25600000
set_option maxRecDepth 100000
namespace Go.Proofs.YtpkbgkoocijegaaGreatDoor
open Go Go.RowKit Go.Proofs.BerK Go.Proofs.MemK Go.Proofs.UtfK Go.Maps Go.WideMaps
def nmP (A : List Atr) (p : Av) : Bool := match scT plT p.1 with
 | none => false
 | some t => (geL A p.1).any (sameQ t.2.1 p.2)
theorem nmgL_all (A : List Atr) (r : List Av) : nmgL A r = r.all (nmP A) := rfl
theorem rd_leaf {s : List UInt8} {r : List Av} {D : List (List Av)} (h : nrD s = some (r :: D)) : rdD (ptL r) = ([r], 0) /\ r.length <= 4096 /\ ∀ p ∈ r, p.1.length <= 4096 /\ p.2.length <= 4096 := by
 obtain ⟨g1, _⟩ := gd_cons (nr_some h).2
 have hp := (g1.2.1 r (by simp)).1
 obtain ⟨p1, p2, p3⟩ := prL_facts hp
 refine ⟨by rw [<- nm_one]; exact rd_nm [r] g1.1 (fun q hq => (g1.2.1 q hq).1) g1.2.2, by omega, fun p hp => ?_⟩
 have h3 := p3 p hp
 simp only [avOk, Bool.and_eq_true, decide_eq_true_eq] at h3
 have := tyL_len h3.1.1
 exact ⟨by omega, by omega⟩
end Go.Proofs.YtpkbgkoocijegaaGreatDoor
