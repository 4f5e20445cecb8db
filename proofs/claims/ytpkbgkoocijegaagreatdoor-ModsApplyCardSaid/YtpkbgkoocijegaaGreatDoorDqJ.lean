/- The given texts, read and put plainly. The law's own given texts come out as said. What is escaped is read back. -/
import Derived.Test.YtpkbgkoocijegaaGreatDoorDqI
import Derived.Test.YtpkbgkoocijegaaGreatDoorDqB
set_option linter.unusedVariables false
set_option linter.unusedSimpArgs false
set_option maxHeartbeats 25600000
set_option maxRecDepth 100000
namespace Go.Proofs.YtpkbgkoocijegaaGreatDoor
open Go Go.RowKit Go.Proofs.BerK Go.Proofs.MemK Go.Proofs.UtfK
theorem hx_all : ∀ n : Fin 256, mayN (hxD (n.val / 16)).toNat = false /\ hxN (hxD (n.val / 16)).toNat < 16 /\ hxN (hxD (n.val % 16)).toNat < 16 /\ UInt8.ofNat (16 * hxN (hxD (n.val / 16)).toNat + hxN (hxD (n.val % 16)).toNat) = UInt8.ofNat n.val /\ hxD (n.val % 16) ≠ 92 /\ hxD (n.val % 16) ≠ 43 /\ hxD (n.val % 16) ≠ 44 := by decide +kernel
theorem hx_c (c : UInt8) : mayN (hxD (c.toNat / 16)).toNat = false /\ hxN (hxD (c.toNat / 16)).toNat < 16 /\ hxN (hxD (c.toNat % 16)).toNat < 16 /\ UInt8.ofNat (16 * hxN (hxD (c.toNat / 16)).toNat + hxN (hxD (c.toNat % 16)).toNat) = c /\ hxD (c.toNat % 16) ≠ 92 /\ hxD (c.toNat % 16) ≠ 43 /\ hxD (c.toNat % 16) ≠ 44 := by
 have h := hx_all ⟨c.toNat, c.toNat_lt⟩
 have e : UInt8.ofNat c.toNat = c := by simp
 simp only [e] at h
 exact h
theorem plain_ne {f l : Bool} {c : UInt8} (h : mkN f l c.toNat = false) : c ≠ 92 /\ c ≠ 43 /\ c ≠ 44 := by
 refine ⟨?_, ?_, ?_⟩ <;> (rintro rfl; revert h; cases f <;> cases l <;> decide)
theorem mark_may {f l : Bool} {c : Nat} (h : mkN f l c = true) : mayN c = true := by
 unfold mkN at h
 unfold mayN
 split at h
 ·rename_i e; simp [e]
 ·split at h
  ·rename_i e; simp [e]
  ·simp [h]
theorem spl_es (s : List UInt8) : ∀ (f : Bool) (u : List UInt8), splG (egL f s ++ u) = (egL f s ++ (splG u).1, (splG u).2) := by
 induction s with
 | nil => intro f u; rfl
 | cons c r ih =>
  intro f u
  rw [egL, List.append_assoc]
  cases hb : bareN c.toNat with
  | true =>
   obtain ⟨_, _, _, _, n1, n2, n3⟩ := hx_c c
   rw [e1_bare _ _ _ hb]
   simp only [List.cons_append, List.nil_append]
   rw [splG_slash]
   simp only [List.take_succ_cons, List.take_zero, List.drop_succ_cons, List.drop_zero]
   rw [splG_else _ _ n1 n2 n3, ih false u]
   rfl
  | false =>
   cases hm : mkN f r.isEmpty c.toNat with
   | true =>
    rw [e1_mark _ _ _ hb hm]
    simp only [List.cons_append, List.nil_append]
    rw [splG_slash]
    simp only [List.take_succ_cons, List.take_zero, List.drop_succ_cons, List.drop_zero]
    rw [ih false u]
    rfl
   | false =>
    obtain ⟨n1, n2, n3⟩ := plain_ne hm
    rw [e1_else _ _ _ hb hm]
    simp only [List.cons_append, List.nil_append]
    rw [splG_else _ _ n1 n2 n3, ih false u]
theorem rv_es (s : List UInt8) : ∀ f : Bool, rvG f (egL f s) = some s := by
 induction s with
 | nil => intro f; cases f <;> simp [egL, rvG]
 | cons c r ih =>
  intro f
  rw [egL]
  cases hb : bareN c.toNat with
  | true =>
   obtain ⟨m1, m2, m3, m4, _⟩ := hx_c c
   rw [e1_bare _ _ _ hb]
   simp only [List.cons_append, List.nil_append]
   rw [rvG_slash, rmL_two _ _ _ (by simp [m1]), if_pos ⟨m2, m3⟩, m4]
   simp only [List.drop_succ_cons, List.drop_zero]
   rw [ih false]; rfl
  | false =>
   cases hm : mkN f r.isEmpty c.toNat with
   | true =>
    rw [e1_mark _ _ _ hb hm]
    simp only [List.cons_append, List.nil_append]
    rw [rvG_slash, rmL_may _ _ (mark_may hm)]
    simp only [List.drop_succ_cons, List.drop_zero]
    rw [ih false]; rfl
   | false =>
    obtain ⟨n1, n2, n3⟩ := plain_ne hm
    rw [e1_else _ _ _ hb hm]
    simp only [List.cons_append, List.nil_append]
    by_cases h32 : c = 32
    ·subst h32
     rw [rvG_blank, ih false, Option.map_some]
     have hr : r ≠ [] := by
      rintro rfl
      revert hm; cases f <;> decide
     rw [if_neg hr]
    ·have h32n : c.toNat ≠ 32 := fun e => h32 (UInt8.toNat_inj.1 (by simpa using e))
     rw [mkN_last f r.isEmpty false _ h32n] at hm
     rw [rvG_else _ _ _ h32 n1 (by rw [hb, hm]; simp), ih false]; rfl
theorem es_head (s : List UInt8) : tlB (egL true s) = egL true s := by
 cases s with
 | nil => rfl
 | cons c r =>
  unfold tlB
  rw [egL]
  cases hb : bareN c.toNat with
  | true => rw [e1_bare _ _ _ hb]; rfl
  | false =>
   cases hm : mkN true r.isEmpty c.toNat with
   | true => rw [e1_mark _ _ _ hb hm]; rfl
   | false =>
    have h32 : c ≠ 32 := by rintro rfl; revert hm; cases r <;> simp [mkN]
    rw [e1_else _ _ _ hb hm, List.cons_append, List.nil_append, List.dropWhile_cons_of_neg (by simpa using h32)]
end Go.Proofs.YtpkbgkoocijegaaGreatDoor
