/- What is put is read, whatever stands behind, and what is read is put as it stood, as plain facts on lists of bytes. -/
import Derived.Test.YtlnfbjgadcifkaaDoorBerT
namespace Go.Proofs.YtlnfbjgadcifkaaDoor
open Go.RowKit Go.Proofs.BerM Go.Proofs.BerK Go.Proofs.MemK

theorem put_c (t : Int) (s : ByteArray) (hm : s.size ≤ maxLen) (L : List UInt8) (E : Int) (hL : putL t s.data.toList = L) (hE : putE t s.data.toList = E) (w : World) :
    Calls Tryd.prog 37 #[.int .i64 t, .string s] w fun e w' => e = .returned (.tuple #[.string ⟨L.toArray⟩, .int .i64 E]) ∧ Below w.heap.size w w' := by
  have := put_any t s w hm
  rw [putV, hL, hE] at this
  exact this
theorem rput_c (t : Int) (s : ByteArray) (hm : s.size ≤ maxLen) (L : List UInt8) (E : Int) (hL : putL t s.data.toList = L) (hE : putE t s.data.toList = E) (w : World) :
    Calls Tryd.prog 22 #[.int .i64 t, .string s] w fun e w' => e = .returned (.tuple #[.string ⟨L.toArray⟩, .int .i64 E]) ∧ Below w.heap.size w w' := by
  have := rput_any t s w hm
  rw [putV, hL, hE] at this
  exact this
theorem putE_bd (t : Int) (l : List UInt8) : 0 ≤ putE t l ∧ putE t l ≤ 6 := by
  unfold putE; split <;> (try split) <;> omega

theorem lenB_pos (n : Nat) : 0 < (lenB n).length := by unfold lenB; split <;> simp

theorem rl_lenB (n : Nat) (h : n ≤ 65536) (r : List UInt8) : rl (lenB n ++ r) = (n, (lenB n).length, 0) := by
  by_cases hs : n < 128
  · have e : lenB n = [UInt8.ofNat n] := by simp [lenB, hs]
    have e2 : (UInt8.ofNat n).toNat = n := by simp; omega
    rw [e]
    simp only [rl, List.cons_append, List.nil_append, List.getD_cons_zero, e2]
    rw [if_pos hs]; rfl
  · have hK4 : (beF n).length ≤ 4 := beF_len_le 4 n (by omega)
    have hK1 : 1 ≤ (beF n).length := by rw [beF_pos n (by omega)]; simp
    have e : lenB n = UInt8.ofNat (128 + (beF n).length) :: beF n := by simp [lenB, hs]
    have e2 : (UInt8.ofNat (128 + (beF n).length)).toNat = 128 + (beF n).length := by rw [UInt8.toNat_ofNat']; omega
    have e3 : moreN n = (beF n).length := by simp [moreN, hs]
    rw [e]
    simp only [rl, List.cons_append, List.getD_cons_zero, e2, List.drop_succ_cons, List.drop_zero, Nat.add_sub_cancel_left, List.take_left', natOf_beF, List.length_cons, List.length_append]
    rw [if_neg (by omega), if_neg (by omega), if_neg (by omega), e3, if_neg (by simp), if_neg (by omega), Nat.add_comm 1]

theorem rd_put (t : Int) (l r : List UInt8) (ht : tagB t = true) (hl : l.length ≤ 65536) : rd (putL t l ++ r) = (t.toNat, l, (putL t l).length, 0) := by
  obtain ⟨h0, h1⟩ := tagB_bd ht
  rw [putL_ok ht hl]
  have e2 : (UInt8.ofNat t.toNat).toNat = t.toNat := by rw [UInt8.toNat_ofNat']; omega
  have hh : hd (UInt8.ofNat t.toNat :: (lenB l.length ++ l) ++ r) = (t.toNat, l.length, 1 + (lenB l.length).length, 0) := by
    have hp := lenB_pos l.length
    have hr := rl_lenB l.length hl (l ++ r)
    rw [← List.append_assoc] at hr
    simp only [hd, List.cons_append, List.getD_cons_zero, e2, List.drop_succ_cons, List.drop_zero, hr, List.length_cons, List.length_append]
    rw [if_neg (by omega), show ((t.toNat : Nat) : Int) = t by omega, if_neg (by simp [ht]), if_neg (by omega), if_neg (by simp)]
  simp only [rd, hh]
  rw [if_neg (by simp), if_neg (by simp; omega)]
  have e5 : List.drop (1 + (lenB l.length).length) (UInt8.ofNat t.toNat :: (lenB l.length ++ l) ++ r) = l ++ r := by
    rw [Nat.add_comm, List.cons_append, List.drop_succ_cons, List.append_assoc, List.drop_left' rfl]
  rw [e5, List.take_left' rfl]
  simp; omega

theorem rl_take (x : List UInt8) (n k : Nat) (h : rl x = (n, k, 0)) (h0 : 0 < x.length) : x.take k = lenB n := by
  obtain ⟨a, y, rfl⟩ : ∃ a y, x = a :: y := by cases x with | nil => simp at h0 | cons a y => exact ⟨a, y, rfl⟩
  have hb := a.toNat_lt
  simp only [rl, List.getD_cons_zero, List.drop_succ_cons, List.drop_zero, List.length_cons] at h
  split at h
  · rename_i hs
    simp only [Prod.mk.injEq] at h
    rw [← h.1, ← h.2.1, lenB, if_pos hs]; simp
  · split at h
    · simp at h
    · split at h
      · simp at h
      · split at h
        · simp at h
        · split at h
          · simp at h
          · rename_i h1 h2 h3 h4 h5
            simp only [Prod.mk.injEq] at h
            obtain ⟨rfl, rfl, _⟩ := h
            have h6 : moreN (natOf (List.take (a.toNat - 128) y)) = a.toNat - 128 := by simpa using h4
            have h7 := (lenB_eq_iff _ (a.toNat - 128) (List.take (a.toNat - 128) y) (by rw [List.length_take]; omega) rfl (by omega)).2 h6
            have h8 : UInt8.ofNat (128 + (a.toNat - 128)) = a := by
              apply UInt8.toNat_inj.1
              rw [UInt8.toNat_ofNat']; omega
            rw [h7, h8, Nat.add_comm, List.take_succ_cons]

theorem put_rd (l : List UInt8) (t m : Nat) (b : List UInt8) (h : rd l = (t, b, m, 0)) : putL t b = l.take m ∧ putE t b = 0 ∧ m ≤ l.length ∧ b.length ≤ l.length ∧ t ≤ 254 := by
  rw [rd] at h
  split at h
  · rename_i h1; simp only [Prod.mk.injEq] at h; exact absurd h.2.2.2 h1
  · split at h
    · simp at h
    · rename_i h1 h2
      have h1' : (hd l).2.2.2 = 0 := by simpa using h1
      obtain ⟨t1, n1, m1, e1, he⟩ : ∃ t1 n1 m1 e1, hd l = (t1, n1, m1, e1) := ⟨_, _, _, _, rfl⟩
      rw [he] at h h2 h1'
      obtain rfl : e1 = 0 := h1'
      simp only [Prod.mk.injEq] at h h2
      obtain ⟨rfl, rfl, rfl, _⟩ := h
      have hb := hd_bd _ _ _ _ he
      obtain ⟨hb1, hb2, hb3, hb4, hb5, hb6⟩ := hb
      have hlen : ((l.drop m1).take n1).length = n1 := by rw [List.length_take, List.length_drop]; omega
      have hput := putL_ok (l := (l.drop m1).take n1) hb6 (by omega)
      have hpe := putE_ok (l := (l.drop m1).take n1) hb6 (by omega)
      have hbd := tagB_bd hb6
      refine ⟨?_, hpe, by omega, by omega, by omega⟩
      rw [hput, hlen]
      obtain ⟨a, y, rfl⟩ : ∃ a y, l = a :: y := by cases l with | nil => simp at hb4; omega | cons a y => exact ⟨a, y, rfl⟩
      have hrl : rl y = (n1, m1 - 1, 0) := by
        rw [hd] at he
        split at he
        · simp at he
        · split at he
          · simp at he
          · split at he
            · simp at he
            · split at he
              · rename_i q; simp only [Prod.mk.injEq] at he; exact absurd he.2.2.2 q
              · rename_i q
                simp only [Prod.mk.injEq, List.drop_succ_cons, List.drop_zero] at he q
                apply Prod.ext
                · exact he.2.1
                · apply Prod.ext
                  · show (rl y).2.1 = m1 - 1; omega
                  · simpa using q
      have hy0 : 0 < y.length := by simp at hb4; omega
      have htk := rl_take y n1 (m1 - 1) hrl hy0
      rw [← htk, hb5]
      simp only [List.getD_cons_zero]
      rw [show m1 + n1 = (m1 - 1 + n1) + 1 by omega, List.take_succ_cons]
      obtain ⟨m2, rfl⟩ : ∃ m2, m1 = m2 + 1 := ⟨m1 - 1, by omega⟩
      have h8 : UInt8.ofNat ((a.toNat : Nat) : Int).toNat = a := by
        apply UInt8.toNat_inj.1
        simp
      rw [h8, Nat.add_sub_cancel, List.drop_succ_cons, List.take_add]

theorem lenB_len (n : Nat) (h : n ≤ 3000) : (lenB n).length = if n < 128 then 1 else if n < 256 then 2 else 3 := by
  by_cases h1 : n < 128
  · simp [lenB, h1]
  · have a := beF_len_le 1 n
    have b := beF_len_le 2 n (by omega)
    have c := beF_len_ge 0 n (by omega)
    have d := beF_len_ge 1 n
    rw [lenB, if_neg h1, if_neg h1, List.length_cons]
    split
    · have := a (by omega); omega
    · have := d (by omega); omega
end Go.Proofs.YtlnfbjgadcifkaaDoor
