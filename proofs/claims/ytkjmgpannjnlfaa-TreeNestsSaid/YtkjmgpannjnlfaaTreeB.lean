/- The code's deepest tells what the plain function dpL tells of the plain function dp1, for every row of tags with bytes that may be and every number of levels up to 64. -/
import Derived.Test.YtkjmgpannjnlfaaTreeA
namespace Go.Proofs.Ytkjmgpannjnlfaa
open Go.RowKit Go.Proofs.BerM Go.Proofs.BerK

theorem dpL_err {g : TB → Nat × Nat} {x : TB} {L : List TB} {d a e : Nat} (h : g x = (a, e)) (he : e ≠ 0) : dpL g (x :: L) d = (0, e) := by
  rw [dpL, h, if_pos he]
theorem dpL_go {g : TB → Nat × Nat} {x : TB} {L : List TB} {d a : Nat} (h : g x = (a, 0)) : dpL g (x :: L) d = dpL g L (max d a) := by
  rw [dpL, h, if_neg (by simp)]
theorem dp1_pt_err {m : Nat} {x : TB} {P : List TB} {e : Nat} (hp : pt x = (P, e)) (he : e ≠ 0) : dp1 (m + 1) x = (0, e) := by
  rw [dp1_succ, hp, if_pos he]
theorem dp1_below_err {m : Nat} {x : TB} {P : List TB} {d e : Nat} (hp : pt x = (P, 0)) (h : dpL (dp1 m) P 0 = (d, e)) (he : e ≠ 0) : dp1 (m + 1) x = (0, e) := by
  rw [dp1_succ, hp, if_neg (by simp)]
  simp only [h]
  rw [if_pos he]
theorem dp1_go {m : Nat} {x : TB} {P : List TB} {d : Nat} (hp : pt x = (P, 0)) (h : dpL (dp1 m) P 0 = (d, 0)) : dp1 (m + 1) x = (d + 1, 0) := by
  rw [dp1_succ, hp, if_neg (by simp)]
  simp only [h]
  rw [if_neg (by simp)]
theorem dpL_le {m : Nat} {L : List TB} {a r : Nat} (h : dpL (dp1 m) L a = (r, 0)) : r ≤ max a m := by
  obtain ⟨_, h2, h3⟩ := dpL_ok _ _ _ _ h
  rcases h3 with rfl | ⟨y, hy, hy2⟩
  · omega
  · have := (dp1_mono m y r (pair_of hy2 (h2 y hy).1)).2.1
    omega
theorem drop_at {α : Type} (L : List α) (i : Nat) (h : i < L.length) : L.drop i = L[i] :: L.drop (i + 1) := by
  rw [List.drop_eq_getElem_cons h]

/-- deepest's answer. -/
def DeepPost (r : Nat × Nat) (w : World) (en : Ending) (w' : World) : Prop :=
  en = .returned (.tuple #[.int .i64 (r.1 : Nat), .int .i64 (r.2 : Nat)]) ∧ Below w.heap.size w w'
theorem deep_mk {r : Nat × Nat} {d e : Nat} {w w' : World} (h : r = (d, e)) (hb : Below w.heap.size w w') : DeepPost r w (.returned (.tuple #[.int .i64 (d : Nat), .int .i64 (e : Nat)])) w' := by
  subst h; exact ⟨rfl, hb⟩

set_option maxHeartbeats 1600000 in
set_option maxRecDepth 100000 in
theorem deep_zero (L : List TB) (v : Value) (w : World) (hL : L.length ≤ 1024) (hr : RowAt w v L) :
    Calls Try.prog 23 #[.int .i64 0, v] w (DeepPost (dpL (dp1 0) L 0) w) := by
  rcases hr with ⟨rfl, a, c, rfl⟩ | ⟨h0, g, c, rfl, hg, hq⟩
  · go_enter Try.func23, Try.ntmps23
    go_wp2
    go_loop [6, 14] (fun v6 v14 => v6 = .int .i64 0 ∧ v14 = .int .i64 0) (fun _ _ => 0)
    case atStart => exact ⟨rfl, rfl⟩
    case round =>
      obtain ⟨rfl, rfl⟩ := hrel
      go_wp2
      go_ret2
      exact deep_mk (d := 0) (e := 0) rfl (Below.refl _ _)
  · obtain ⟨hc0, hc1⟩ := hq 0 h0
    have HV : Hid (dpL (dp1 0) L 0 = (0, 7)) := by
      obtain ⟨x, L', rfl⟩ : ∃ x L', L = x :: L' := by cases L with | nil => simp at h0 | cons x L' => exact ⟨x, L', rfl⟩
      exact dpL_err (a := 0) rfl (by decide)
    have HG := Lib.hid hg
    obtain ⟨t, b, hx⟩ : ∃ t b, L[0] = (t, b) := ⟨_, _, rfl⟩
    rw [hx] at hc0 hc1
    have hi1 : (0 : Int) < (L.length : Int) := by omega
    clear hq hx hg
    go_enter Try.func23, Try.ntmps23
    go_wp2
    go_loop [14] (fun v14 => v14 = .int .i64 0) (fun _ => 0)
    case atStart => rfl
    case round =>
      obtain rfl := hrel
      go_wp2
      go_ret2
      exact deep_mk HV.out ((Below.refl _ _).alloc (Nat.le_refl _) _)

set_option maxHeartbeats 1600000 in
set_option maxRecDepth 100000 in
theorem deep_succ (m : Nat) (ih : ∀ (L : List TB) (v : Value) (w : World), (∀ x ∈ L, goodTB x) → L.length ≤ 1024 → RowAt w v L → Calls Try.prog 23 #[.int .i64 m, v] w (DeepPost (dpL (dp1 m) L 0) w)) (hm : m + 1 ≤ 64)
    (L : List TB) (v : Value) (w : World) (hgood : ∀ x ∈ L, goodTB x) (hL : L.length ≤ 1024) (hr : RowAt w v L) :
    Calls Try.prog 23 #[.int .i64 ((m : Int) + 1), v] w (DeepPost (dpL (dp1 (m + 1)) L 0) w) := by
  have IH := Lib.hid ih
  have HGood := Lib.hid hgood
  clear ih hgood
  rcases hr with ⟨rfl, a, c, rfl⟩ | ⟨h0, g, c, rfl, hg, hq⟩
  · go_enter Try.func23, Try.ntmps23
    go_wp2
    go_loop [6, 14] (fun v6 v14 => v6 = .int .i64 0 ∧ v14 = .int .i64 0) (fun _ _ => 0)
    case atStart => exact ⟨rfl, rfl⟩
    case round =>
      obtain ⟨rfl, rfl⟩ := hrel
      go_wp2
      go_ret2
      exact deep_mk (d := 0) (e := 0) rfl (Below.refl _ _)
  · have HG := Lib.hid hg
    have HQ := Lib.hid hq
    clear hg hq
    go_enter Try.func23, Try.ntmps23
    go_wp2
    go_loopw [6, 14] (fun v6 v14 wr => ∃ (i d : Nat), v6 = .int .i64 d ∧ v14 = .int .i64 i ∧ i ≤ L.length ∧ d ≤ 64 ∧ dpL (dp1 (m + 1)) (L.drop i) d = dpL (dp1 (m + 1)) L 0 ∧ Below w.heap.size w wr) (fun _ v14 _ => L.length - (intOf v14).toNat)
    case atStart => exact ⟨0, 0, rfl, rfl, Nat.zero_le _, Nat.zero_le _, rfl, Below.refl _ _⟩
    case round =>
      obtain ⟨i, d, rfl, rfl, hi, hd, hinv, hbel⟩ := hrel
      by_cases hlt : i < L.length
      · rw [drop_at L i hlt] at hinv
        obtain ⟨hq0, hq1⟩ := HQ.out i hlt
        have hgx := HGood.out L[i] (List.getElem_mem hlt)
        obtain ⟨t, b, hx⟩ : ∃ t b, L[i] = (t, b) := ⟨_, _, rfl⟩
        rw [hx] at hq0 hq1 hinv hgx
        have hc0 := (hbel.cell (p := ⟨g, i * 2, none⟩) HG.out).trans hq0
        have hc1 := (hbel.cell (p := ⟨g, i * 2 + 1, none⟩) HG.out).trans hq1
        obtain ⟨P, e, hp⟩ : ∃ P e, pt (t, b) = (P, e) := ⟨_, _, rfl⟩
        have hpg := pt_good (t, b)
        rw [hp] at hpg
        have HC := Lib.hid fun w => pt_any t b (good_t hgx) hgx.2 P e hp w
        have HI := Lib.hid hinv
        have HP := Lib.hid hp
        have HPG := Lib.hid hpg
        clear hinv hp hpg hgx hx hq0 hq1
        have hi0 : (0 : Int) ≤ i := by omega
        have hi1 : (i : Int) < (L.length : Int) := by omega
        go_wp2_with fail
        refine (HC.out _).mono ?_
        rintro en w1 ⟨v1, rfl, hown, hb1⟩
        have hb1' : Below w.heap.size w w1 := (hbel.alloc hbel.size _).trans (hb1.mono (by have := hbel.size; simp; omega))
        have hra := rowAt_owns hown
        clear hown hb1 hc0 hc1
        by_cases he : e = 0
        · subst he
          obtain ⟨d1, e1, hD⟩ : ∃ d1 e1, dpL (dp1 m) P 0 = (d1, e1) := ⟨_, _, rfl⟩
          have HC2 := Lib.hid (IH.out P v1 w1 HPG.out.1 HPG.out.2 hra)
          have HD := Lib.hid hD
          clear hD hra
          go_wp2_with fail
          refine HC2.out.mono ?_
          rintro en w2 ⟨rfl, hb2⟩
          rw [HD.out]
          have hb2' : Below w.heap.size w w2 := hb1'.trans (hb2.mono hb1'.size)
          clear hb2 hb1' hbel
          by_cases he1 : e1 = 0
          · subst he1
            have hV := dp1_go HP.out HD.out
            have hle := dpL_le HD.out
            have hNew : dpL (dp1 (m + 1)) (L.drop (i + 1)) (max d (d1 + 1)) = dpL (dp1 (m + 1)) L 0 := by rw [← HI.out, dpL_go hV]
            have HN := Lib.hid hNew
            clear hV hNew
            go_wp2
            all_goals
              go_roundw
              case rel => exact ⟨i + 1, max d (d1 + 1), by go_num, by go_num, by omega, by omega, HN.out, hb2'⟩
              case measure => simp [intOf]; omega
          · have hV := dp1_below_err HP.out HD.out he1
            have HN := Lib.hid (HI.out.symm.trans (dpL_err hV he1))
            have hq : ((e1 : Int) != 0) = true := by rw [bne_iff_ne]; omega
            clear hV
            go_wp2
            go_ret2
            exact deep_mk HN.out hb2'
        · have hV := dp1_pt_err (m := m) HP.out he
          have HN := Lib.hid (HI.out.symm.trans (dpL_err hV he))
          have hq : ((e : Int) != 0) = true := by rw [bne_iff_ne]; omega
          clear hV
          go_wp2
          go_ret2
          exact deep_mk HN.out hb1'
      · have hi' : i = L.length := by omega
        have HN : Hid (dpL (dp1 (m + 1)) L 0 = (d, 0)) := by unfold Hid; rw [← hinv, hi', List.drop_length]; rfl
        clear hinv
        go_wp2
        go_ret2
        exact deep_mk HN.out hbel

theorem deep_any (k : Nat) (hk : k ≤ 64) : ∀ (L : List TB) (v : Value) (w : World), (∀ x ∈ L, goodTB x) → L.length ≤ 1024 → RowAt w v L → Calls Try.prog 23 #[.int .i64 k, v] w (DeepPost (dpL (dp1 k) L 0) w) := by
  induction k with
  | zero => intro L v w _ hL hr; exact deep_zero L v w hL hr
  | succ m ih => intro L v w hg hL hr; exact deep_succ m (ih (by omega)) hk L v w hg hL hr
end Go.Proofs.Ytkjmgpannjnlfaa
