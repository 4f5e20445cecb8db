/- Are types and classes not too many, and not too great? -/
import Derived.Test.YtcfckgpjdaadeaaGreatDoorScL
import Derived.Test.YtcfckgpjdaadeaaGreatDoorScCD
namespace Go.Proofs.YtcfckgpjdaadeaaGreatDoor
set_option linter.unusedSimpArgs false
set_option linter.unusedVariables false
open Go Go.RowKit Go.Proofs.BerK Go.Proofs.MemK Go.Proofs.UtfK

/-- What is known of types and classes that are not too great. -/
def SmallA (T : List Ty) (C : List Cl) : Prop := T.length ≤ 12 ∧ C.length ≤ 6 ∧ (∀ i (hi : i < T.length), T[i].1.length ≤ 80) ∧ ∀ i (hi : i < C.length), C[i].1.length ≤ 80 ∧ C[i].2.1.length ≤ 5 ∧ C[i].2.2.length ≤ 5
def SmallPost (T : List Ty) (C : List Cl) (w : World) (en : Ending) (w' : World) : Prop := (en = .returned (.bool false) ∨ (en = .returned (.bool true) ∧ SmallA T C)) ∧ Below w.heap.size w w'
set_option maxHeartbeats 6400000 in
set_option maxRecDepth 100000 in
theorem small9_any (T : List Ty) (C : List Cl) (tv cv : Value) (w : World) (h : TyAt w tv T) (h2 : ClAt w cv C) : Calls Tryz.prog 21 #[tv, cv] w (SmallPost T C w) := by
  obtain ⟨ta, tc, rfl, htc⟩ := h
  obtain ⟨ca, cc, rfl, hcc⟩ := h2
  have HT := Lib.hid htc
  have HC := Lib.hid hcc
  obtain ⟨tn, htn⟩ : ∃ n, T.length = n := ⟨_, rfl⟩
  obtain ⟨cn, hcn⟩ : ∃ n, C.length = n := ⟨_, rfl⟩
  have HL := Lib.hid (And.intro htn hcn)
  rw [htn, hcn]
  clear htc hcc htn hcn
  by_cases h1 : 12 < tn
  · have q1 : (12 : Int) < (tn : Int) := by omega
    clear h1
    go_enter Tryz.func21, Tryz.ntmps21
    go_wp2
    go_ret
    exact ⟨.inl rfl, Below.refl _ _⟩
  have q1 : ¬ (12 : Int) < (tn : Int) := by omega
  by_cases h2 : 6 < cn
  · have q2 : (6 : Int) < (cn : Int) := by omega
    clear h1 h2
    go_enter Tryz.func21, Tryz.ntmps21
    go_wp2
    go_ret
    exact ⟨.inl rfl, Below.refl _ _⟩
  have q2 : ¬ (6 : Int) < (cn : Int) := by omega
  have HD := Lib.hid (And.intro (Nat.le_of_not_lt h1) (Nat.le_of_not_lt h2))
  have ht12 : tn ≤ 12 := by omega
  have hc6 : cn ≤ 6 := by omega
  clear h1 h2
  go_enter Tryz.func21, Tryz.ntmps21
  go_wp2
  go_loopw [5] (fun v wr => ∃ i : Nat, i ≤ tn ∧ v = .int .i64 (i : Nat) ∧ Below w.heap.size w wr ∧ ∀ p (hp : p < T.length), p < i → T[p].1.length ≤ 80) (fun v _ => tn - (intOf v).toNat)
  case atStart => exact ⟨0, by omega, rfl, Below.refl _ _, fun p _ h => by omega⟩
  case round =>
    obtain ⟨i, hi, rfl, hb, hall⟩ := hrel
    by_cases hlt : i < tn
    · have hil : (i : Int) < (tn : Int) := by omega
      have him : i < T.length := by rw [HL.out.1]; exact hlt
      obtain ⟨g, o, rfl, hg, e0w, _, _⟩ := HT.out i him
      have e0 := (hb.cell (p := ⟨g, _, none⟩) hg).trans e0w
      have HNx := Lib.hid (fun (hx : T[i].1.length ≤ 80) p (hp : p < T.length) (h : p < i + 1) => (show T[p].1.length ≤ 80 by
        by_cases e : p = i
        · subst e; exact hx
        · exact hall p hp (by omega)))
      obtain ⟨nm, hnm⟩ : ∃ x, T[i].1 = x := ⟨_, rfl⟩
      have HNm := Lib.hid hnm
      rw [hnm] at e0
      have HB := Lib.hid hb
      clear hb hall e0w hnm
      by_cases h3 : 80 < nm.length
      · have q3 : (80 : Int) < (nm.length : Int) := by omega
        clear h3
        go_wp2
        go_ret
        exact ⟨.inl rfl, HB.out⟩
      have q3 : ¬ (80 : Int) < (nm.length : Int) := by omega
      have HN := Lib.hid (HNx.out (by rw [HNm.out]; omega))
      clear h3
      go_wp2
      exact ⟨⟨i + 1, by omega, by go_num, HB.out, HN.out⟩, by simp [intOf]; omega⟩
    · obtain rfl : i = tn := by omega
      have HTa := Lib.hid (fun p hp => hall p hp (by rw [← HL.out.1]; exact hp))
      have HB := Lib.hid hb
      clear hb hall
      go_wp2
      go_loopw [6] (fun v wz => ∃ k : Nat, k ≤ cn ∧ v = .int .i64 (k : Nat) ∧ Below w.heap.size w wz ∧ ∀ p (hp : p < C.length), p < k → C[p].1.length ≤ 80 ∧ C[p].2.1.length ≤ 5 ∧ C[p].2.2.length ≤ 5) (fun v _ => cn - (intOf v).toNat)
      case atStart => exact ⟨0, by omega, rfl, HB.out, fun p _ h => by omega⟩
      case round =>
        obtain ⟨k, hk, rfl, hbz, hgd⟩ := hrel
        by_cases hlk : k < cn
        · have hkl : (k : Int) < (cn : Int) := by omega
          have hkm : k < C.length := by rw [HL.out.2]; exact hlk
          obtain ⟨g, o, mu, ma, rfl, hg, e0w, e1w, e2w, hmu, hma, _⟩ := HC.out k hkm
          obtain ⟨mua, muc, rfl, _⟩ := hmu
          obtain ⟨maa, mac, rfl, _⟩ := hma
          have e0 := (hbz.cell (p := ⟨g, _, none⟩) hg).trans e0w
          have e1 := (hbz.cell (p := ⟨g, _, none⟩) hg).trans e1w
          have e2 := (hbz.cell (p := ⟨g, _, none⟩) hg).trans e2w
          have HNx := Lib.hid (fun (hx : C[k].1.length ≤ 80 ∧ C[k].2.1.length ≤ 5 ∧ C[k].2.2.length ≤ 5) p (hp : p < C.length) (h : p < k + 1) => (show C[p].1.length ≤ 80 ∧ C[p].2.1.length ≤ 5 ∧ C[p].2.2.length ≤ 5 by
            by_cases e : p = k
            · subst e; exact hx
            · exact hgd p hp (by omega)))
          obtain ⟨nm, hnm⟩ : ∃ x, C[k].1 = x := ⟨_, rfl⟩
          obtain ⟨m1, hm1⟩ : ∃ x, C[k].2.1.length = x := ⟨_, rfl⟩
          obtain ⟨m2, hm2⟩ : ∃ x, C[k].2.2.length = x := ⟨_, rfl⟩
          have HNm := Lib.hid (And.intro hnm (And.intro hm1 hm2))
          rw [hnm] at e0
          rw [hm1] at e1
          rw [hm2] at e2
          have HBz := Lib.hid hbz
          clear hbz hgd e0w e1w e2w hnm hm1 hm2
          by_cases hall : nm.length ≤ 80 ∧ m1 ≤ 5 ∧ m2 ≤ 5
          · have q3 : ¬ (80 : Int) < (nm.length : Int) := by omega
            have q4 : ¬ (5 : Int) < (m1 : Int) := by omega
            have q5 : ¬ (5 : Int) < (m2 : Int) := by omega
            have HN := Lib.hid (HNx.out (by rw [HNm.out.1, HNm.out.2.1, HNm.out.2.2]; exact hall))
            clear hall
            go_wp2
            exact ⟨⟨k + 1, by omega, by go_num, HBz.out, HN.out⟩, by simp [intOf]; omega⟩
          · have hw : (80 : Int) < (nm.length : Int) ∨ (¬ (80 : Int) < (nm.length : Int) ∧ (5 : Int) < (m1 : Int)) ∨ (¬ (80 : Int) < (nm.length : Int) ∧ ¬ (5 : Int) < (m1 : Int) ∧ (5 : Int) < (m2 : Int)) := by omega
            clear hall
            rcases hw with q3 | ⟨q3, q4⟩ | ⟨q3, q4, q5⟩
            all_goals
              go_wp2
              go_ret
              exact ⟨.inl rfl, HBz.out⟩
        · obtain rfl : k = cn := by omega
          have HF := Lib.hid (show SmallA T C from ⟨by rw [HL.out.1]; exact HD.out.1, by rw [HL.out.2]; exact HD.out.2, HTa.out, fun p hp => hgd p hp (by rw [← HL.out.2]; exact hp)⟩)
          have HBz := Lib.hid hbz
          clear hbz hgd
          go_wp2
          go_ret
          exact ⟨.inr ⟨rfl, HF.out⟩, HBz.out⟩
end Go.Proofs.YtcfckgpjdaadeaaGreatDoor
