/- Two texts compared; two pairs compared by their types; the bits of a length. -/
import Derived.Test.YtdmjnfadhlgpkaaGreatDoorDnFG
import Derived.Test.YtdmjnfadhlgpkaaGreatDoorDnZ
import Derived.Test.YtdmjnfadhlgpkaaGreatDoorLays
import Derived.Sort.Grow
namespace Go.Proofs.YtdmjnfadhlgpkaaGreatDoor
set_option linter.unusedSimpArgs false
set_option linter.unusedVariables false
open Go Go.RowKit Go.Proofs.BerK Go.Proofs.MemK Go.Proofs.UtfK

/-- How two texts stand. -/
def cmpB (a b : ByteArray) : Int := if Op.bytesLess a.toList b.toList = true then -1 else if (a.toList == b.toList) = true then 0 else 1
def cmpA (x y : Av) : Int := cmpB ⟨x.1.toArray⟩ ⟨y.1.toArray⟩
def encA (p : Av) : List Value := [.string ⟨p.1.toArray⟩, .string ⟨p.2.toArray⟩]

theorem dnan_any (a : ByteArray) (w : World) : Calls Tryz.prog 61 #[.string a] w fun e w' => e = .returned (.bool false) ∧ w' = w := by
  go_enter Tryz.func61, Tryz.ntmps61
  go_wp2
  go_ret
  exact ⟨by simp, rfl⟩
set_option maxHeartbeats 1600000 in
theorem dcmp_any (a b : ByteArray) (w : World) : Calls Tryz.prog 46 #[.string a, .string b] w fun e w' => e = .returned (.int .i64 (cmpB a b)) ∧ w' = w := by
  have hn := fun x W => dnan_any x W
  unfold cmpB
  cases h1 : Op.bytesLess a.toList b.toList <;> cases h2 : (a.toList == b.toList) <;>
  · have h3 : (!(a.toList == b.toList)) = _ := congrArg not h2
    simp only [Bool.not_false, Bool.not_true] at h3
    go_enter Tryz.func46, Tryz.ntmps46
    go_wp2_with (go_at_call 61; refine (hn _ _).mono ?_; rintro e w' ⟨rfl, rfl⟩)
    go_ret
    exact ⟨rfl, rfl⟩
set_option maxHeartbeats 1600000 in
theorem dless_any (x y : Av) (W : World) : Calls Tryz.prog 45 #[.agg #[.string ⟨x.1.toArray⟩, .string ⟨x.2.toArray⟩], .agg #[.string ⟨y.1.toArray⟩, .string ⟨y.2.toArray⟩]] W fun e w' => e = .returned (.int .i64 (cmpA x y)) ∧ ∃ q os', w' = Go.Sort.grow (W.drewN q) os' := by
  have hcon := fun W' => dcmp_any ⟨x.1.toArray⟩ ⟨y.1.toArray⟩ W'
  change ∀ W', Calls Tryz.prog _ _ W' fun e w' => e = .returned (.int .i64 (cmpA x y)) ∧ w' = W' at hcon
  generalize cmpA x y = r at hcon ⊢
  go_enter Tryz.func45, Tryz.ntmps45
  go_wp2_with (go_at_call 46; refine (hcon _).mono ?_; rintro e w' ⟨rfl, rfl⟩)
  go_ret
  exact ⟨rfl, 0, _, by rw [Go.Sort.alloc_eq_grow, Go.Sort.alloc_eq_grow, Go.Sort.grow_grow]; rfl⟩
theorem dbits_any (n : Nat) (W : World) (h : n ≤ 12) : Calls Tryz.prog 60 #[.int .u64 n] W fun e w' => (∃ l : Int, e = .returned (.int .i64 l)) ∧ w' = W :=
  (Any.bits_Len Tryz.bitsLen6 n W (by omega) (by omega)).mono fun _ _ ⟨he, hw⟩ => ⟨⟨_, he⟩, hw⟩
end Go.Proofs.YtdmjnfadhlgpkaaGreatDoor
