/- The walks of the laws FoldOnce and FoldOrder: each returns true and leaves what was in memory as it was. -/
import Derived.Test.YtnfkknelpgnmhaaDoorFoldF
namespace Go.Proofs.YtnfkknelpgnmhaaDoor
open Go Go.RowKit Go.Proofs.BerK Go.Proofs.MemK Go.Proofs.UtfK

/-! ### FoldOnce -/
set_option maxHeartbeats 800000 in
set_option maxRecDepth 100000 in
theorem fonce_asleep (s : ByteArray) (w : World) (h : 300 < s.size) :
    Calls Tryd.prog 3 #[.string s] w (BoolPost true w) := by
  have h1 : (300 : Int) < (s.size : Int) := by omega
  go_enter Tryd.func3, Tryd.ntmps3
  go_wp2_with fail
  refine (awakeF_any _).mono ?_
  rintro e w1 ⟨rfl, hb1⟩
  go_wp2
  go_ret
  exact ⟨rfl, hb1⟩
theorem toList_mkF (l : List UInt8) : (⟨l.toArray⟩ : ByteArray).toList = l := by rw [ByteArray.toList_eq]

set_option maxHeartbeats 1600000 in
set_option maxRecDepth 100000 in
theorem fonce_core (s : ByteArray) (w : World) (h : s.size ≤ 300) :
    Calls Tryd.prog 3 #[.string s] w (BoolPost true w) := by
  have hl := len_list s
  obtain ⟨F, hF⟩ : ∃ F, foldL s.data.toList = F := ⟨_, rfl⟩
  have hFl : F.length ≤ s.size := by rw [← hF, ← hl]; exact foldL_length _
  have hFF : foldL F = F := by rw [← hF]; exact foldL_foldL _
  obtain ⟨a, b, hi⟩ : ∃ a b, intL s.data.toList = (a, b) := ⟨_, _, rfl⟩
  obtain ⟨a2, b2, hi2⟩ : ∃ c d, intL a = (c, d) := ⟨_, _, rfl⟩
  have H1 := Lib.hid (fold_c s F (by omega) hF)
  have H2 := Lib.hid (int_c s a b hi)
  have H3 := Lib.hid (int_c ⟨a.toArray⟩ a2 b2 hi2)
  have H4 := Lib.hid (fold_c ⟨F.toArray⟩ F (by show F.length + 1 ≤ _; omega) hFF)
  have hq1 : (F == F) = true := by simp
  have hq2 : (F.length : Int) ≤ (s.size : Int) := by omega
  have hq3 : (s.size : Int) ≤ 300 := by omega
  cases b
  · clear hF hFF hi hi2 hFl h hl
    go_enter Tryd.func3, Tryd.ntmps3
    go_wp2_with fail
    refine (H1.out _).mono ?_
    rintro e w1 ⟨rfl, hb⟩
    go_wp2_with fail
    refine (H2.out _).mono ?_
    rintro e w2 ⟨rfl, hb2⟩
    have hb := hb.trans (hb2.mono hb.size)
    clear hb2
    go_wp2_with fail
    refine (H3.out _).mono ?_
    rintro e w2 ⟨rfl, hb2⟩
    have hb := hb.trans (hb2.mono hb.size)
    clear hb2
    go_wp2_with fail
    refine (H4.out _).mono ?_
    rintro e w2 ⟨rfl, hb2⟩
    have hb := hb.trans (hb2.mono hb.size)
    clear hb2
    go_wp2_with fail
    refine (awakeF_any _).mono ?_
    rintro e w2 ⟨rfl, hb2⟩
    have hb := hb.trans (hb2.mono hb.size)
    clear hb2
    go_wp2
    go_ret
    exact ⟨rfl, hb⟩
  · have hii := int_int hi
    rw [hi2] at hii
    injection hii with e1 e2
    subst e1 e2
    have hq4 : (a2 == a2) = true := by simp
    clear hF hFF hi hi2 hFl h hl
    go_enter Tryd.func3, Tryd.ntmps3
    go_wp2_with fail
    refine (H1.out _).mono ?_
    rintro e w1 ⟨rfl, hb⟩
    go_wp2_with fail
    refine (H2.out _).mono ?_
    rintro e w2 ⟨rfl, hb2⟩
    have hb := hb.trans (hb2.mono hb.size)
    clear hb2
    go_wp2_with fail
    refine (H3.out _).mono ?_
    rintro e w2 ⟨rfl, hb2⟩
    have hb := hb.trans (hb2.mono hb.size)
    clear hb2
    go_wp2_with fail
    refine (H4.out _).mono ?_
    rintro e w2 ⟨rfl, hb2⟩
    have hb := hb.trans (hb2.mono hb.size)
    clear hb2
    go_wp2_with fail
    refine (awakeF_any _).mono ?_
    rintro e w2 ⟨rfl, hb2⟩
    have hb := hb.trans (hb2.mono hb.size)
    clear hb2
    go_wp2
    go_ret
    exact ⟨rfl, hb⟩
theorem fonce_walk (s : ByteArray) (w : World) : Calls Tryd.prog 3 #[.string s] w (BoolPost true w) := by
  by_cases h : 300 < s.size
  · exact fonce_asleep s w h
  · exact fonce_core s w (by omega)

/-! ### FoldOrder -/
theorem forder_ways (a b c : List UInt8) {l1 l2 l3 : List UInt8} (h1 : intL l1 = (a, true)) (h2 : intL l2 = (b, true)) (h3 : intL l3 = (c, true)) :
    (lessL a b = true ∧ lessL b a = false ∧ (a == b) = false ∧ (lessL b c = false ∨ lessL b c = true ∧ lessL a c = true)) ∨ (lessL a b = false ∧ (lessL b a == (a == b)) = false) := by
  obtain ⟨g1, g2, g3⟩ := less_order h1 h2 h3
  cases hp : lessL a b
  · refine .inr ⟨rfl, ?_⟩
    rw [hp] at g2
    cases hq : lessL b a
    · rw [hq] at g2
      have : a = b := by simpa using g2
      subst this; simp
    · rw [hq] at g2
      have : a ≠ b := by simpa using g2
      simp [this]
  · have hq : lessL b a = false := by
      cases hq : lessL b a
      · rfl
      · exact absurd ⟨hp, hq⟩ g1
    have hab : a ≠ b := g2.1 (.inl hp)
    refine .inl ⟨rfl, hq, by simp [hab], ?_⟩
    cases hr : lessL b c
    · exact .inl rfl
    · exact .inr ⟨rfl, g3 hp hr⟩

set_option maxHeartbeats 1600000 in
set_option maxRecDepth 100000 in
theorem forder_walk (x y z : ByteArray) (w : World) : Calls Tryd.prog 4 #[.string x, .string y, .string z] w (BoolPost true w) := by
  obtain ⟨a, p, hi1⟩ : ∃ c d, intL x.data.toList = (c, d) := ⟨_, _, rfl⟩
  obtain ⟨b, q, hi2⟩ : ∃ c d, intL y.data.toList = (c, d) := ⟨_, _, rfl⟩
  obtain ⟨c, r, hi3⟩ : ∃ c d, intL z.data.toList = (c, d) := ⟨_, _, rfl⟩
  have H1 := Lib.hid (int_c x a p hi1)
  have H2 := Lib.hid (int_c y b q hi2)
  have H3 := Lib.hid (int_c z c r hi3)
  cases p
  · clear hi1 hi2 hi3
    go_enter Tryd.func4, Tryd.ntmps4
    go_wp2_with fail
    refine (H1.out _).mono ?_
    rintro e w1 ⟨rfl, hb⟩
    go_wp2_with fail
    refine (H2.out _).mono ?_
    rintro e w2 ⟨rfl, hb2⟩
    have hb := hb.trans (hb2.mono hb.size)
    clear hb2
    go_wp2_with fail
    refine (H3.out _).mono ?_
    rintro e w2 ⟨rfl, hb2⟩
    have hb := hb.trans (hb2.mono hb.size)
    clear hb2
    go_wp2_with fail
    refine (awakeF_any _).mono ?_
    rintro e w2 ⟨rfl, hb2⟩
    have hb := hb.trans (hb2.mono hb.size)
    clear hb2
    go_wp2
    go_ret
    exact ⟨rfl, hb⟩
  cases q
  · clear hi1 hi2 hi3
    go_enter Tryd.func4, Tryd.ntmps4
    go_wp2_with fail
    refine (H1.out _).mono ?_
    rintro e w1 ⟨rfl, hb⟩
    go_wp2_with fail
    refine (H2.out _).mono ?_
    rintro e w2 ⟨rfl, hb2⟩
    have hb := hb.trans (hb2.mono hb.size)
    clear hb2
    go_wp2_with fail
    refine (H3.out _).mono ?_
    rintro e w2 ⟨rfl, hb2⟩
    have hb := hb.trans (hb2.mono hb.size)
    clear hb2
    go_wp2_with fail
    refine (awakeF_any _).mono ?_
    rintro e w2 ⟨rfl, hb2⟩
    have hb := hb.trans (hb2.mono hb.size)
    clear hb2
    go_wp2
    go_ret
    exact ⟨rfl, hb⟩
  cases r
  · clear hi1 hi2 hi3
    go_enter Tryd.func4, Tryd.ntmps4
    go_wp2_with fail
    refine (H1.out _).mono ?_
    rintro e w1 ⟨rfl, hb⟩
    go_wp2_with fail
    refine (H2.out _).mono ?_
    rintro e w2 ⟨rfl, hb2⟩
    have hb := hb.trans (hb2.mono hb.size)
    clear hb2
    go_wp2_with fail
    refine (H3.out _).mono ?_
    rintro e w2 ⟨rfl, hb2⟩
    have hb := hb.trans (hb2.mono hb.size)
    clear hb2
    go_wp2_with fail
    refine (awakeF_any _).mono ?_
    rintro e w2 ⟨rfl, hb2⟩
    have hb := hb.trans (hb2.mono hb.size)
    clear hb2
    go_wp2
    go_ret
    exact ⟨rfl, hb⟩
  rcases forder_ways a b c hi1 hi2 hi3 with ⟨hP, hQ, hE, hR⟩ | ⟨hP, hE⟩
  · have L1 := Lib.hid (less_c ⟨a.toArray⟩ ⟨b.toArray⟩ true hP)
    have L2 := Lib.hid (less_c ⟨b.toArray⟩ ⟨a.toArray⟩ false hQ)
    rcases hR with hR | ⟨hR, hU⟩
    · have L3 := Lib.hid (less_c ⟨b.toArray⟩ ⟨c.toArray⟩ false hR)
      clear hi1 hi2 hi3 hP hQ hR
      go_enter Tryd.func4, Tryd.ntmps4
      go_wp2_with fail
      refine (H1.out _).mono ?_
      rintro e w1 ⟨rfl, hb⟩
      go_wp2_with fail
      refine (H2.out _).mono ?_
      rintro e w2 ⟨rfl, hb2⟩
      have hb := hb.trans (hb2.mono hb.size)
      clear hb2
      go_wp2_with fail
      refine (H3.out _).mono ?_
      rintro e w2 ⟨rfl, hb2⟩
      have hb := hb.trans (hb2.mono hb.size)
      clear hb2
      go_wp2_with fail
      refine (L1.out _).mono ?_
      rintro e w2 ⟨rfl, hb2⟩
      have hb := hb.trans (hb2.mono hb.size)
      clear hb2
      go_wp2_with fail
      refine (L2.out _).mono ?_
      rintro e w2 ⟨rfl, hb2⟩
      have hb := hb.trans (hb2.mono hb.size)
      clear hb2
      go_wp2_with fail
      refine (L1.out _).mono ?_
      rintro e w2 ⟨rfl, hb2⟩
      have hb := hb.trans (hb2.mono hb.size)
      clear hb2
      go_wp2_with fail
      refine (L1.out _).mono ?_
      rintro e w2 ⟨rfl, hb2⟩
      have hb := hb.trans (hb2.mono hb.size)
      clear hb2
      go_wp2_with fail
      refine (L3.out _).mono ?_
      rintro e w2 ⟨rfl, hb2⟩
      have hb := hb.trans (hb2.mono hb.size)
      clear hb2
      go_wp2_with fail
      refine (awakeF_any _).mono ?_
      rintro e w2 ⟨rfl, hb2⟩
      have hb := hb.trans (hb2.mono hb.size)
      clear hb2
      go_wp2
      go_ret
      exact ⟨rfl, hb⟩
    · have L3 := Lib.hid (less_c ⟨b.toArray⟩ ⟨c.toArray⟩ true hR)
      have L4 := Lib.hid (less_c ⟨a.toArray⟩ ⟨c.toArray⟩ true hU)
      clear hi1 hi2 hi3 hP hQ hR hU
      go_enter Tryd.func4, Tryd.ntmps4
      go_wp2_with fail
      refine (H1.out _).mono ?_
      rintro e w1 ⟨rfl, hb⟩
      go_wp2_with fail
      refine (H2.out _).mono ?_
      rintro e w2 ⟨rfl, hb2⟩
      have hb := hb.trans (hb2.mono hb.size)
      clear hb2
      go_wp2_with fail
      refine (H3.out _).mono ?_
      rintro e w2 ⟨rfl, hb2⟩
      have hb := hb.trans (hb2.mono hb.size)
      clear hb2
      go_wp2_with fail
      refine (L1.out _).mono ?_
      rintro e w2 ⟨rfl, hb2⟩
      have hb := hb.trans (hb2.mono hb.size)
      clear hb2
      go_wp2_with fail
      refine (L2.out _).mono ?_
      rintro e w2 ⟨rfl, hb2⟩
      have hb := hb.trans (hb2.mono hb.size)
      clear hb2
      go_wp2_with fail
      refine (L1.out _).mono ?_
      rintro e w2 ⟨rfl, hb2⟩
      have hb := hb.trans (hb2.mono hb.size)
      clear hb2
      go_wp2_with fail
      refine (L1.out _).mono ?_
      rintro e w2 ⟨rfl, hb2⟩
      have hb := hb.trans (hb2.mono hb.size)
      clear hb2
      go_wp2_with fail
      refine (L3.out _).mono ?_
      rintro e w2 ⟨rfl, hb2⟩
      have hb := hb.trans (hb2.mono hb.size)
      clear hb2
      go_wp2_with fail
      refine (L4.out _).mono ?_
      rintro e w2 ⟨rfl, hb2⟩
      have hb := hb.trans (hb2.mono hb.size)
      clear hb2
      go_wp2_with fail
      refine (awakeF_any _).mono ?_
      rintro e w2 ⟨rfl, hb2⟩
      have hb := hb.trans (hb2.mono hb.size)
      clear hb2
      go_wp2
      go_ret
      exact ⟨rfl, hb⟩
  · have L1 := Lib.hid (less_c ⟨a.toArray⟩ ⟨b.toArray⟩ false hP)
    obtain ⟨Q, hQ⟩ : ∃ Q, lessL b a = Q := ⟨_, rfl⟩
    rw [hQ] at hE
    have L2 := Lib.hid (less_c ⟨b.toArray⟩ ⟨a.toArray⟩ Q hQ)
    clear hi1 hi2 hi3 hP hQ
    go_enter Tryd.func4, Tryd.ntmps4
    go_wp2_with fail
    refine (H1.out _).mono ?_
    rintro e w1 ⟨rfl, hb⟩
    go_wp2_with fail
    refine (H2.out _).mono ?_
    rintro e w2 ⟨rfl, hb2⟩
    have hb := hb.trans (hb2.mono hb.size)
    clear hb2
    go_wp2_with fail
    refine (H3.out _).mono ?_
    rintro e w2 ⟨rfl, hb2⟩
    have hb := hb.trans (hb2.mono hb.size)
    clear hb2
    go_wp2_with fail
    refine (L1.out _).mono ?_
    rintro e w2 ⟨rfl, hb2⟩
    have hb := hb.trans (hb2.mono hb.size)
    clear hb2
    go_wp2_with fail
    refine (L1.out _).mono ?_
    rintro e w2 ⟨rfl, hb2⟩
    have hb := hb.trans (hb2.mono hb.size)
    clear hb2
    go_wp2_with fail
    refine (L2.out _).mono ?_
    rintro e w2 ⟨rfl, hb2⟩
    have hb := hb.trans (hb2.mono hb.size)
    clear hb2
    go_wp2_with fail
    refine (L1.out _).mono ?_
    rintro e w2 ⟨rfl, hb2⟩
    have hb := hb.trans (hb2.mono hb.size)
    clear hb2
    go_wp2_with fail
    refine (awakeF_any _).mono ?_
    rintro e w2 ⟨rfl, hb2⟩
    have hb := hb.trans (hb2.mono hb.size)
    clear hb2
    go_wp2
    go_ret
    exact ⟨rfl, hb⟩
end Go.Proofs.YtnfkknelpgnmhaaDoor
