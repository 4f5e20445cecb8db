/- The document's Lower, Check, Part and Put, for every name. The document's Part and Put, for every name. -/
import Derived.Test.YtjbdldbjefmnjaaGreatDoorDqC
import Derived.Test.YtjbdldbjefmnjaaGreatDoorDqA
import Derived.Test.YtjbdldbjefmnjaaGreatDoorDqB
namespace Go.Proofs.YtjbdldbjefmnjaaGreatDoor
set_option linter.unusedSimpArgs false
set_option linter.unusedVariables false
open Go Go.RowKit Go.Proofs.BerK Go.Proofs.MemK Go.Proofs.UtfK

theorem low_snoc (s : ByteArray) (k : Nat) (h : k < s.size) : lowL (s.data.toList.take (k + 1)) = lowL (s.data.toList.take k) ++ [low1 s[k]] := by
  rw [take_snoc s k h]; simp [lowL]

set_option maxHeartbeats 1600000 in
set_option maxRecDepth 100000 in
theorem rlow5_any (s : ByteArray) (hm : s.size ≤ 140737488355328) (w : World) :
    Calls Tryz.prog 23 #[.string s] w (StrPost (lowL s.data.toList) w) := by
  have hsz := len_list s
  go_enter Tryz.func23, Tryz.ntmps23
  go_wp2
  go_loopw [3, 4] (fun o v wr => ∃ k : Nat, k ≤ s.size ∧ v = .int .i64 (k : Nat) ∧ wr.ownsRow w.heap.size 5 1 o k (bc (lowL (s.data.toList.take k))) ∧ Below w.heap.size w wr) (fun _ v _ => s.size - (intOf v).toNat)
  case atStart => exact ⟨0, by omega, rfl, World.ownsRow_nil _ _ _ _, Below.refl _ _⟩
  case round =>
    obtain ⟨k, hk, rfl, hown, hb⟩ := hrel
    by_cases hlt : k < s.size
    · have hkl : (k : Int) < (s.size : Int) := by omega
      have h8 : s[k].toNat < 256 := s[k].toNat_lt
      have hlow := low1_toNat s[k]
      have HS := Lib.hid (low_snoc s k hlt)
      have H := Lib.hid (And.intro hown hb)
      clear hown hb
      obtain ⟨x, hx⟩ : ∃ x, s[k] = x := ⟨_, rfl⟩
      rw [hx] at h8 hlow HS
      have hw : ((65 : Int) ≤ (x.toNat : Int) ∧ (x.toNat : Int) ≤ 90 ∧ ((low1 x).toNat : Int) = (x.toNat : Int) + 32) ∨ ((x.toNat : Int) < 65 ∧ (low1 x).toNat = x.toNat) ∨ ((65 : Int) ≤ (x.toNat : Int) ∧ (90 : Int) < (x.toNat : Int) ∧ (low1 x).toNat = x.toNat) := by
        by_cases hu : 65 ≤ x.toNat ∧ x.toNat ≤ 90
        · rw [if_pos hu] at hlow; exact .inl ⟨by omega, by omega, by omega⟩
        · rw [if_neg hu] at hlow; omega
      clear hlow
      rcases hw with ⟨q1, q2, q3⟩ | ⟨q1, q3⟩ | ⟨q1, q2, q3⟩
      · have HQ := Lib.hid q3
        clear q3
        go_wp2_with (at_builtin; refine wpList_pushm rfl (.tmp 23) (.tmp 25) 60 5 rfl w.heap.size 1 1 (.int .u8 0) Tryz.info5 Tryz.underlying60 rfl (by decide) 1 [.int .u8 ((x.toNat : Int) + 32)] rfl ?c0 _ k _ rfl _ rfl ?c3 H.out.1 ?c1 ?c2 H.out.2.size ?_)
        case c0 => first | rfl | (intro u hu; simp at hu; subst hu; rfl)
        case c1 => unfold maxLen; omega
        case c2 => omega
        case c3 => rfl
        intro v' w' g1 g2
        go_wp2
        refine ⟨⟨k + 1, by omega, by go_num, ?_, H.out.2.trans g2⟩, by simp [intOf]; omega⟩
        rw [HS.out, bc_append]
        rw [← HQ.out] at g1; exact g1
      all_goals
        have HQ := Lib.hid q3
        clear q3
        go_wp2_with (at_builtin; refine wpList_pushm rfl (.tmp 23) (.tmp 25) 60 5 rfl w.heap.size 1 1 (.int .u8 0) Tryz.info5 Tryz.underlying60 rfl (by decide) 1 [.int .u8 (x.toNat : Int)] rfl ?c0 _ k _ rfl _ rfl ?c3 H.out.1 ?c1 ?c2 H.out.2.size ?_)
        case c0 => first | rfl | (intro u hu; simp at hu; subst hu; rfl)
        case c1 => unfold maxLen; omega
        case c2 => omega
        case c3 => rfl
        intro v' w' g1 g2
        go_wp2
        refine ⟨⟨k + 1, by omega, by go_num, ?_, H.out.2.trans g2⟩, by simp [intOf]; omega⟩
        rw [HS.out, bc_append]
        rw [← HQ.out] at g1; exact g1
    · obtain rfl : k = s.size := by omega
      rw [List.take_of_length_le (by omega)] at hown
      have hc := conv_own' (P := Tryz.prog) (src := 60) (dst := 9) Tryz.underlying60 Tryz.underlying5 Tryz.underlying9 hown
      have H := Lib.hid hb
      clear hb hown
      go_wp2
      go_ret
      exact ⟨rfl, H.out⟩

theorem tw_step (r : List Av) (T : List UInt8) (j k : Nat) (h : j < k) (hk : k ≤ r.length) : (r.take (j + 1)).any (fun q => lowL q.1 == lowL T) = ((r.take j).any (fun q => lowL q.1 == lowL T) || (lowL (r[j]'(by omega)).1 == lowL T)) := by
  rw [any_take (fun q : Av => lowL q.1 == lowL T) r j (by omega)]
theorem any_more {r : List Av} {p : Av → Bool} {j k : Nat} (h : j ≤ k) (h1 : (r.take j).any p = true) : (r.take k).any p = true := by
  rw [List.any_eq_true] at h1 ⊢
  obtain ⟨x, hx, hp⟩ := h1
  refine ⟨x, ?_, hp⟩
  have : r.take j = (r.take k).take j := by rw [List.take_take, Nat.min_eq_left h]
  rw [this] at hx
  exact List.mem_of_mem_take hx

end Go.Proofs.YtjbdldbjefmnjaaGreatDoor
namespace Go.Proofs.YtjbdldbjefmnjaaGreatDoor
set_option linter.unusedSimpArgs false
set_option linter.unusedVariables false
open Go Go.RowKit Go.Proofs.BerK Go.Proofs.MemK Go.Proofs.UtfK

theorem jn_len (sep : UInt8) (m : Nat) (l : List (List UInt8)) (h : ∀ x ∈ l, x.length ≤ m) (f : Bool) : (jnL sep f l).length ≤ (m + 1) * l.length := by
  induction l generalizing f with
  | nil => simp [jnL]
  | cons x r ih =>
    have h1 := h x (by simp)
    have h2 := ih (fun y hy => h y (by simp [hy])) false
    rw [jnL, List.length_append, List.length_append, List.length_cons, Nat.mul_add]
    have : (if f = true then ([] : List UInt8) else [sep]).length ≤ 1 := by split <;> simp
    omega
theorem pt_len {r : List Av} (h : prL r = true) : (ptL r).length ≤ 6672 := by
  obtain ⟨h1, h2, h3⟩ := prL_facts h
  have := jn_len 43 833 (r.map avL) (fun x hx => by obtain ⟨p, hp, rfl⟩ := List.mem_map.1 hx; exact av_len (h3 p hp)) true
  rw [List.length_map] at this
  rw [ptL]
  have : 834 * r.length ≤ 834 * 8 := Nat.mul_le_mul_left _ h2
  omega

end Go.Proofs.YtjbdldbjefmnjaaGreatDoor
