/- Is an entry not too great? -/
import Derived.Test.YtpkbgkoocijegaaGreatDoorSnAL
import Derived.Test.YtpkbgkoocijegaaGreatDoorScAD
set_option linter.unusedVariables false
set_option linter.unusedSimpArgs false
set_option maxHeartbeats 25600000
set_option maxRecDepth 100000
namespace Go.Proofs.YtpkbgkoocijegaaGreatDoor
open Go Go.RowKit Go.Proofs.BerK Go.Proofs.MemK Go.Proofs.UtfK
def FewA (dn : List UInt8) (A : List Atr) : Prop := dn.length <= 300 /\ A.length <= 12 /\ ∀ i (hi : i < A.length), A[i].1.length <= 80 /\ A[i].2.length <= 8 /\ ∀ j (hj : j < A[i].2.length), A[i].2[j].length <= 300
def FewPost (dn : List UInt8) (A : List Atr) (w : World) (en : Ending) (w' : World) : Prop := (en = .returned (.bool false) \/ (en = .returned (.bool true) /\ FewA dn A)) /\ Below w.heap.size w w'
theorem few9_any (dn : List UInt8) (A : List Atr) (av : Value) (w : World) (hA : AtAt w av A) : Calls Tryz.prog 7 #[.agg #[.string ⟨dn.toArray⟩, av]] w (FewPost dn A w) := by
 obtain ⟨a, c, rfl, hcells⟩ := hA
 have HM := Hy hcells
 obtain ⟨W1, hW1⟩ : ∃ W1, w.alloc (.cells #[.string ⟨dn.toArray⟩, .slice a A.length c] 24) = W1 := ⟨_, rfl⟩
 have y1 : W1.heap[w.heap.size]? = some (.cells #[.string ⟨dn.toArray⟩, .slice a A.length c] 24 (0, 0)) := by rw [<- hW1]; exact heap_alloc_new w _
 have hb1 : Below w.heap.size w W1 := by rw [<- hW1]; exact (Below.refl _ w).alloc (Nat.le_refl _) _
 have HX := Hy (An y1 hb1)
 have HW1 := Hy hW1
 have b01 := obj2s y1
 rw [<- hW1] at b01
 obtain ⟨b0, b1⟩ := b01
 obtain ⟨n, hn⟩ : ∃ n, A.length = n := ⟨_, rfl⟩
 have HL := Hy hn
 rw [hn] at b0 b1 HW1 HX ⊢
 clear hcells hW1 y1 hb1 hn
 by_cases h1 : 300 < dn.length
 ·have q1 : (300 : Int) < (dn.length : Int) := by omega
  clear h1
  go_enter Tryz.func7, Tryz.ntmps7
  go_wp2
  rw [HW1.out]
  go_ret
  exact ⟨.inl rfl, HX.out.2⟩
 have q1 : ¬ (300 : Int) < (dn.length : Int) := by omega
 by_cases h2 : 12 < n
 ·have q2 : (12 : Int) < (n : Int) := by omega
  clear h1 h2
  go_enter Tryz.func7, Tryz.ntmps7
  go_wp2
  rw [HW1.out]
  go_ret
  exact ⟨.inl rfl, HX.out.2⟩
 have q2 : ¬ (12 : Int) < (n : Int) := by omega
 have HD := Hy (An (Nat.le_of_not_lt h1) (Nat.le_of_not_lt h2))
 clear h1 h2
 go_enter Tryz.func7, Tryz.ntmps7
 go_wp2
 rw [HW1.out]
 clear b0 b1
 go_loopw [3] (fun v wr => ∃ i : Nat, i <= n /\ v = .int .i64 (i : Nat) /\ Below W1.heap.size W1 wr /\ ∀ p (hp : p < A.length), p < i -> A[p].1.length <= 80 /\ A[p].2.length <= 8 /\ ∀ j (hj : j < A[p].2.length), A[p].2[j].length <= 300) (fun v _ => n - (intOf v).toNat)
 case atStart => exact ⟨0, by omega, rfl, Below.refl _ _, fun p _ h => by omega⟩
 case round =>
  obtain ⟨i, hi, rfl, hb, hall⟩ := hrel
  have x1 := obj_below HX.out.1 hb (obj_lt HX.out.1)
  obtain ⟨b0, b1⟩ := obj2s x1
  have hbw := HX.out.2.trans (hb.mono HX.out.2.size)
  by_cases hlt : i < n
  ·have hil : (i : Int) < (n : Int) := by omega
   have him : i < A.length := by rw [HL.out]; exact hlt
   obtain ⟨g, o, vl, rfl, hg, e0w, e1w, hvl⟩ := HM.out i him
   obtain ⟨va, vc, rfl, hvx⟩ := hvl
   have HVX := Hy hvx
   have e0 := (hbw.cell (p := ⟨g, _, none⟩) hg).trans e0w
   have e1 := (hbw.cell (p := ⟨g, _, none⟩) hg).trans e1w
   have HE1 := Hy e1w
   have HNx := Hy (fun (hx : A[i].1.length <= 80 /\ A[i].2.length <= 8 /\ ∀ j (hj : j < A[i].2.length), A[i].2[j].length <= 300) p (hp : p < A.length) (h : p < i + 1) => (show A[p].1.length <= 80 /\ A[p].2.length <= 8 /\ ∀ j (hj : j < A[p].2.length), A[p].2[j].length <= 300 by
    by_cases e : p = i
    ·subst e; exact hx
    ·exact hall p hp (by omega)))
   obtain ⟨m, hm⟩ : ∃ x, A[i].2.length = x := ⟨_, rfl⟩
   have HMl := Hy hm
   rw [hm] at e1 HE1
   obtain ⟨nm, hnm⟩ : ∃ x, A[i].1 = x := ⟨_, rfl⟩
   have HNm := Hy hnm
   rw [hnm] at e0
   have HB := Hy (An hb (An hbw x1))
   clear hb hbw hall e0w e1w hvx hm hnm x1
   by_cases h3 : 80 < nm.length
   ·have q3 : (80 : Int) < (nm.length : Int) := by omega
    clear h3
    go_wp2
    go_ret
    exact ⟨.inl rfl, HB.out.2.1⟩
   have q3 : ¬ (80 : Int) < (nm.length : Int) := by omega
   by_cases h4 : 8 < m
   ·have q4 : (8 : Int) < (m : Int) := by omega
    clear h3 h4
    go_wp2
    go_ret
    exact ⟨.inl rfl, HB.out.2.1⟩
   have q4 : ¬ (8 : Int) < (m : Int) := by omega
   have HD2 := Hy (An (Nat.le_of_not_lt h3) (Nat.le_of_not_lt h4))
   have hm9 : m <= 8 := by omega
   clear h3 h4
   go_wp2
   clear b0 b1 e0 e1
   obtain ⟨W2, hW2⟩ : ∃ W2, W2 = wr := ⟨_, rfl⟩
   subst hW2
   go_loopw [4] (fun v wz => ∃ k : Nat, k <= m /\ v = .int .i64 (k : Nat) /\ Below W2.heap.size W2 wz /\ ∀ j (hj : j < A[i].2.length), j < k -> A[i].2[j].length <= 300) (fun v _ => m - (intOf v).toNat)
   case atStart => exact ⟨0, by omega, rfl, Below.refl _ _, fun j _ h => by omega⟩
   case round =>
    obtain ⟨k, hk, rfl, hbz, hgd⟩ := hrel
    obtain ⟨b0, b1⟩ := obj2s (obj_below HB.out.2.2 hbz (obj_lt HB.out.2.2))
    have hbW := HB.out.2.1.trans (hbz.mono HB.out.2.1.size)
    have e1 := (hbW.cell (p := ⟨g, _, none⟩) hg).trans HE1.out
    by_cases hlk : k < m
    ·have hkl : (k : Int) < (m : Int) := by omega
     have hkm : k < A[i].2.length := by rw [HMl.out]; exact hlk
     obtain ⟨g3, o3, rfl, hg3, v0w⟩ := HVX.out k hkm
     have v0 := (hbW.cell (p := ⟨g3, _, none⟩) hg3).trans v0w
     have HNk := Hy (fun (hx : A[i].2[k].length <= 300) j (hj : j < A[i].2.length) (h : j < k + 1) => (show A[i].2[j].length <= 300 by
      by_cases e : j = k
      ·subst e; exact hx
      ·exact hgd j hj (by omega)))
     obtain ⟨x, hx⟩ : ∃ x, A[i].2[k] = x := ⟨_, rfl⟩
     have HXx := Hy hx
     rw [hx] at v0
     have HBz := Hy (An hbz hbW)
     clear hbz hbW hgd v0w hx
     by_cases h5 : 300 < x.length
     ·have q5 : (300 : Int) < (x.length : Int) := by omega
      clear h5
      go_wp2
      go_ret
      exact ⟨.inl rfl, HBz.out.2⟩
     have q5 : ¬ (300 : Int) < (x.length : Int) := by omega
     have HN := Hy (HNk.out (by rw [HXx.out]; omega))
     clear h5
     go_wp2
     exact ⟨⟨k + 1, by omega, by go_num, HBz.out.1, HN.out⟩, by simp [intOf]; omega⟩
    ·obtain rfl : k = m := by omega
     have HN := Hy (HNx.out ⟨by rw [HNm.out]; exact HD2.out.1, by rw [HMl.out]; exact HD2.out.2, fun j hj => hgd j hj (by rw [<- HMl.out]; exact hj)⟩)
     have HBz := Hy (HB.out.1.trans (hbz.mono HB.out.1.size))
     clear hbz hbW hgd
     go_wp2
     exact ⟨⟨i + 1, by omega, by go_num, HBz.out, HN.out⟩, by simp [intOf]; omega⟩
  ·obtain rfl : i = n := by omega
   have HF := Hy (show FewA dn A from ⟨HD.out.1, by rw [HL.out]; exact HD.out.2, fun p hp => hall p hp (by rw [<- HL.out]; exact hp)⟩)
   have HB := Hy hbw
   clear hb hbw hall x1
   go_wp2
   go_ret
   exact ⟨.inr ⟨rfl, HF.out⟩, HB.out⟩
end Go.Proofs.YtpkbgkoocijegaaGreatDoor
