/- The walk of the law TreeNests: it returns true and leaves what was in memory as it was. -/
import Derived.Test.YtkjmgpannjnlfaaTreeH
namespace Go.Proofs.Ytkjmgpannjnlfaa
open Go.RowKit Go.Proofs.BerM Go.Proofs.BerK

theorem deepL_take (l : List (List UInt8)) (i : Nat) (h : i < l.length) : deepL (l.take (i + 1)) = max (deepL (l.take i)) (dpth l[i]) := by
  unfold deepL
  rw [List.take_succ_eq_append_getElem h, List.foldl_append]; rfl
theorem deepL_le (l : List (List UInt8)) : deepL l ≤ 64 := by
  have : ∀ (l : List (List UInt8)) (a : Nat), a ≤ 64 → l.foldl (fun d x => max d (dpth x)) a ≤ 64 := by
    intro l
    induction l with
    | nil => intro a h; exact h
    | cons x l ih => intro a h; rw [List.foldl_cons]; exact ih _ (by have := dpth_le x; omega)
  exact this l 0 (by omega)
theorem flat_le (l : List (List UInt8)) (k : Nat) (h : ∀ x ∈ l, x.length ≤ k) : l.flatten.length ≤ l.length * k := by
  induction l with
  | nil => simp
  | cons x l ih =>
    have h1 := h x (by simp)
    have h2 := ih fun y hy => h y (by simp [hy])
    rw [List.flatten_cons, List.length_append, List.length_cons, Nat.add_mul]
    omega
theorem mem_take_snoc {α : Type} {p : α → Prop} {l : List α} {i : Nat} (h : i < l.length) (h1 : ∀ x ∈ l.take i, p x) (h2 : p l[i]) : ∀ x ∈ l.take (i + 1), p x := by
  rw [List.take_succ_eq_append_getElem h]
  intro x hx
  rcases List.mem_append.1 hx with hx | hx
  · exact h1 x hx
  · obtain rfl := List.mem_singleton.1 hx; exact h2

set_option maxHeartbeats 800000 in
set_option maxRecDepth 100000 in
theorem nests_many (v : Value) (l : List (List UInt8)) (w : World) (hv : StrAt w v l) (hm : l.length ≤ maxLen) (h : 8 < l.length) :
    Calls Try.prog 5 #[v] w fun e w' => e = .returned (.bool true) ∧ Below w.heap.size w w' := by
  unfold maxLen at hm
  obtain ⟨a, c, rfl⟩ : ∃ a c, v = .slice a l.length c := by
    rcases hv with ⟨rfl, a, c, rfl⟩ | ⟨_, g, o, c, rfl, _⟩
    · simp at h
    · exact ⟨_, c, rfl⟩
  clear hv
  go_enter Try.func5, Try.ntmps5
  go_wp2_with fail
  refine (awake_any _).mono ?_
  rintro e w1 ⟨rfl, hb1⟩
  go_wp2
  go_ret
  exact ⟨rfl, hb1⟩

set_option maxHeartbeats 1600000 in
set_option maxRecDepth 100000 in
theorem nests_few (a : Option Addr) (c : Nat) (l : List (List UInt8)) (w : World) (hv : StrAt w (.slice a l.length c) l) (hs : ∀ x ∈ l, x.length ≤ maxLen) (h : ¬ 8 < l.length) :
    Calls Try.prog 5 #[.slice a l.length c] w fun e w' => e = .returned (.bool true) ∧ Below w.heap.size w w' := by
  have HS := Lib.hid hs
  have HV := Lib.hid hv
  have hcells : ∀ i (hi : i < l.length), ∃ g o, a = some ⟨g, o, none⟩ ∧ g < w.heap.size ∧ w.cell? ⟨g, o + i, none⟩ = some (.string ⟨l[i].toArray⟩) := by
    intro i hi
    rcases hv with ⟨h0, _⟩ | ⟨_, g, o, c, hv, hg, hq⟩
    · rw [h0] at hi; simp at hi
    · cases hv; exact ⟨g, o, rfl, hg, hq i hi⟩
  have HC := Lib.hid hcells
  clear hs hv hcells
  go_enter Try.func5, Try.ntmps5
  go_wp2
  go_loopw [3, 4] (fun v3 v4 wr => ∃ (i d : Nat), v3 = .int .i64 d ∧ v4 = .int .i64 i ∧ i ≤ l.length ∧ deepL (l.take i) = d ∧ d ≤ 64 ∧ (∀ x ∈ l.take i, dpth x ≠ 0 ∧ x.length ≤ 200) ∧ Below w.heap.size w wr) (fun _ v4 _ => l.length - (intOf v4).toNat)
  case atStart => exact ⟨0, 0, rfl, rfl, Nat.zero_le _, rfl, Nat.zero_le _, by simp, Below.refl _ _⟩
  case round =>
    obtain ⟨i, d, rfl, rfl, hi, hd, hd64, hall, hbel⟩ := hrel
    have HD := Lib.hid hd
    have HAll := Lib.hid hall
    clear hd hall
    by_cases hlt : i < l.length
    · obtain ⟨g, o, rfl, hg, hq⟩ := HC.out i hlt
      have hc0 := (hbel.cell (p := ⟨g, o + i, none⟩) hg).trans hq
      have hxm := HS.out l[i] (List.getElem_mem hlt)
      have HT := Lib.hid (deepL_take l i hlt)
      have HM := Lib.hid (mem_take_snoc (p := fun x => dpth x ≠ 0 ∧ x.length ≤ 200) hlt HAll.out)
      obtain ⟨x, hx⟩ : ∃ x, l[i] = x := ⟨_, rfl⟩
      rw [hx] at hc0 hxm HT HM
      have HXM := Lib.hid hxm
      unfold maxLen at hxm
      have hi0 : (0 : Int) ≤ i := by omega
      have hi1 : (i : Int) < (l.length : Int) := by omega
      clear hx hq hg
      by_cases h200 : 200 < x.length
      · go_wp2_with fail
        refine (awake_any _).mono ?_
        rintro e w1 ⟨rfl, hb1⟩
        go_wp2
        go_ret
        exact ⟨rfl, hbel.trans (hb1.mono hbel.size)⟩
      · obtain ⟨d1, hd1⟩ : ∃ d1, dpth x = d1 := ⟨_, rfl⟩
        have hd1le := dpth_le x
        rw [hd1] at HT HM hd1le
        have HDep := Lib.hid fun w => depth_any ⟨x.toArray⟩ w HXM.out d1 hd1
        clear hd1
        by_cases h0 : d1 = 0
        · have hq : ((d1 : Int) == 0) = true := beq_iff_eq.2 (by omega)
          clear h0
          go_wp2_with fail
          refine (HDep.out _).mono ?_
          rintro en w1 ⟨rfl, hb1⟩
          have hb1' := hbel.trans (hb1.mono hbel.size)
          clear hb1
          go_wp2_with fail
          refine (awake_any _).mono ?_
          rintro en w2 ⟨rfl, hb2⟩
          go_wp2
          go_ret
          exact ⟨rfl, hb1'.trans (hb2.mono hb1'.size)⟩
        · have hq : ((d1 : Int) == 0) = false := beq_eq_false_iff_ne.2 (by omega)
          have H0 := Lib.hid h0
          have HNew : Hid (deepL (l.take (i + 1)) = max d d1) := by unfold Hid; rw [HT.out, HD.out]
          clear h0
          go_wp2_with fail
          refine (HDep.out _).mono ?_
          rintro en w1 ⟨rfl, hb1⟩
          have hb1' := hbel.trans (hb1.mono hbel.size)
          clear hb1
          go_wp2
          all_goals
            go_roundw
            case rel => exact ⟨i + 1, max d d1, by go_num, by go_num, by omega, HNew.out, by omega, HM.out ⟨H0.out, by omega⟩, hb1'⟩
            case measure => simp [intOf]; omega
    · have hi' : i = l.length := by omega
      have hall : ∀ x ∈ l, dpth x ≠ 0 ∧ x.length ≤ 200 := by
        have := HAll.out
        rw [hi', List.take_length] at this
        exact this
      have hdl : deepL l = d := by
        have := HD.out
        rw [hi', List.take_length] at this
        exact this
      have hfl := flat_le l 200 fun x hx => (hall x hx).2
      have hfl2 : l.flatten.length ≤ 1600 := by omega
      have HSeq := Lib.hid fun w hv => seq_any l (.slice a l.length c) w hv (by omega) (by omega)
      have hpl := putL_len 48 l.flatten (by omega)
      have hPL : (putL 48 l.flatten).length ≤ maxLen := by unfold maxLen; omega
      by_cases h64 : 64 ≤ d
      · clear hall hdl hpl hPL hfl
        go_wp2_with fail
        refine (HSeq.out _ (strAt_below HV.out hbel)).mono ?_
        rintro en w1 ⟨rfl, hb1⟩
        have hb1' := hbel.trans (hb1.mono hbel.size)
        clear hb1
        go_wp2_with fail
        refine (awake_any _).mono ?_
        rintro en w2 ⟨rfl, hb2⟩
        go_wp2
        go_ret
        exact ⟨rfl, hb1'.trans (hb2.mono hb1'.size)⟩
      · have HDep := Lib.hid fun w => depth_any ⟨(putL 48 l.flatten).toArray⟩ w hPL (d + 1) (by
          rw [← hdl]
          exact dpth_seq l (fun x hx => (hall x hx).1) (by omega) (by omega) (by omega))
        clear hall hdl hpl hPL hfl
        go_wp2_with fail
        refine (HSeq.out _ (strAt_below HV.out hbel)).mono ?_
        rintro en w1 ⟨rfl, hb1⟩
        have hb1' := hbel.trans (hb1.mono hbel.size)
        clear hb1
        go_wp2_with fail
        refine (HDep.out _).mono ?_
        rintro en w2 ⟨rfl, hb2⟩
        have hb2' := hb1'.trans (hb2.mono hb1'.size)
        clear hb2 hb1'
        go_wp2_with fail
        refine (awake_any _).mono ?_
        rintro en w3 ⟨rfl, hb3⟩
        go_wp2
        go_ret
        exact ⟨rfl, hb2'.trans (hb3.mono hb2'.size)⟩

theorem nests_walk (v : Value) (l : List (List UInt8)) (w : World) (hv : StrAt w v l) (hm : l.length ≤ maxLen) (hs : ∀ x ∈ l, x.length ≤ maxLen) :
    Calls Try.prog 5 #[v] w fun e w' => e = .returned (.bool true) ∧ Below w.heap.size w w' := by
  by_cases h : 8 < l.length
  · exact nests_many v l w hv hm h
  · obtain ⟨a, c, rfl⟩ : ∃ a c, v = .slice a l.length c := by
      rcases hv with ⟨rfl, a, c, rfl⟩ | ⟨_, g, o, c, rfl, _⟩
      · exact ⟨a, c, rfl⟩
      · exact ⟨_, c, rfl⟩
    exact nests_few a c l w hv hs h
end Go.Proofs.Ytkjmgpannjnlfaa
