/- Lists of texts the same; attributes the same. The document's Equal: two entries the same as they stand. The code's Has; whether a text is on a list. -/
import Derived.Test.YtpkbgkoocijegaaGreatDoorEnAB
import Derived.Test.YtpkbgkoocijegaaGreatDoorTxs
import Derived.Test.YtpkbgkoocijegaaGreatDoorSnAL
import Derived.Test.YtpkbgkoocijegaaGreatDoorRuAD
set_option linter.unusedVariables false
set_option linter.unusedSimpArgs false
set_option maxHeartbeats 25600000
set_option maxRecDepth 100000
namespace Go.Proofs.YtpkbgkoocijegaaGreatDoor
open Go Go.RowKit Go.Proofs.BerK Go.Proofs.MemK Go.Proofs.UtfK
theorem boxes10 {w W1 : World} {a b c d : Value} (h : (w.alloc (.cells #[a, b] 24)).alloc (.cells #[c, d] 24) = W1) :
  W1.heap[w.heap.size]? = some (.cells #[a, b] 24 (0, 0)) /\ W1.heap[w.heap.size + 1]? = some (.cells #[c, d] 24 (0, 0)) /\ Below w.heap.size w W1 /\ W1.heap.size = w.heap.size + 2 := by
 have hb0 : Below w.heap.size w (w.alloc (.cells #[a, b] 24)) := (Below.refl _ w).alloc (Nat.le_refl _) _
 refine ⟨?_, ?_, ?_, ?_⟩
 ·rw [<- h]; exact obj_alloc (heap_alloc_new w _) _
 ·rw [<- h]
  have := heap_alloc_new (w.alloc (.cells #[a, b] 24)) (.cells #[c, d] 24)
  simpa using this
 ·rw [<- h]; exact hb0.alloc hb0.size _
 ·rw [<- h]; simp
theorem req10_any (A B : List Atr) (dx dy : List UInt8) (va vb : Value) (w : World) (h1 : AtAt w va A) (h2 : AtAt w vb B) (hl : A.length <= 1000000) (hl2 : B.length <= 1000000) (hA : ∀ a ∈ A, a.2.length <= 1000000) (hB : ∀ a ∈ B, a.2.length <= 1000000) :
  Calls Tryz.prog 15 #[.agg #[.string ⟨dx.toArray⟩, va], .agg #[.string ⟨dy.toArray⟩, vb]] w (BB (decide (dx = dy /\ A = B)) w) := by
 obtain ⟨a1, c1, rfl, hq1⟩ := h1
 obtain ⟨a2, c2, rfl, hq2⟩ := h2
 have HQ1 := Hy hq1
 have HQ2 := Hy hq2
 have HA := Hy (An hA hB)
 obtain ⟨R, hR⟩ : ∃ R, decide (dx = dy /\ A = B) = R := ⟨_, rfl⟩
 have HR := Hy hR
 rw [hR]
 obtain ⟨n, hn⟩ : ∃ n, A.length = n := ⟨_, rfl⟩
 obtain ⟨m, hm⟩ : ∃ n, B.length = n := ⟨_, rfl⟩
 have HL := Hy (An hn hm)
 rw [hn] at hl ⊢
 rw [hm] at hl2 ⊢
 obtain ⟨W1, hW1⟩ : ∃ W1, (w.alloc (.cells #[.string ⟨dx.toArray⟩, .slice a1 n c1] 24)).alloc (.cells #[.string ⟨dy.toArray⟩, .slice a2 m c2] 24) = W1 := ⟨_, rfl⟩
 have HX := Hy (boxes10 hW1)
 have HW1 := Hy hW1
 clear hq1 hq2 hR hn hm hA hB hW1
 have b0 := (obj2s HX.out.1).1
 have b1 := (obj2s HX.out.1).2
 have d0 := (obj2s HX.out.2.1).1
 have d1 := (obj2s HX.out.2.1).2
 cases hd : (dx == dy)
 ·have HRf := Hy (show R = false by
   rw [<- HR.out, decide_eq_false_iff_not]
   rintro ⟨e, _⟩
   subst e
   simp at hd)
  go_enter Tryz.func15, Tryz.ntmps15
  go_wp2_with fail
  try rw [HW1.out]
  try go_wp2
  go_ret
  exact bB_mk HRf.out HX.out.2.2.1
 by_cases hnm : n = m
 ·subst hnm
  have HD := Hy (show dx = dy by simpa using hd)
  go_enter Tryz.func15, Tryz.ntmps15
  go_wp2
  try rw [HW1.out]
  go_loopw [5] (fun v5 wr => ∃ k : Nat, v5 = .int .i64 k /\ k <= n /\ Below (w.heap.size + 2) W1 wr /\ ∀ j (h1 : j < A.length) (h2 : j < B.length), j < k -> A[j] = B[j]) (fun v5 _ => n - (intOf v5).toNat)
  case atStart => exact ⟨0, rfl, Nat.zero_le _, Below.refl _ _, fun j _ _ h => by omega⟩
  case round =>
   clear b0 b1 d0 d1
   obtain ⟨k, rfl, hk, hb, hall⟩ := hrel
   have x0 := obj_below HX.out.1 hb (by omega)
   have x1 := obj_below HX.out.2.1 hb (by omega)
   obtain ⟨b0, b1⟩ := obj2s x0
   obtain ⟨d0, d1⟩ := obj2s x1
   have z0 := obj_lt x0
   have z1 := obj_lt x1
   have hbw := HX.out.2.2.1.trans (hb.mono (by omega))
   clear x0 x1
   by_cases hlt : k < n
   ·have hk1 : k < A.length := by rw [HL.out.1]; exact hlt
    have hk2 : k < B.length := by rw [HL.out.2]; exact hlt
    obtain ⟨g1, o1, v1, rfl, hg1, e1w, f1w, t1⟩ := HQ1.out k hk1
    obtain ⟨g2, o2, v2, rfl, hg2, e2w, f2w, t2⟩ := HQ2.out k hk2
    have e1 := (hbw.cell (p := ⟨g1, _, none⟩) hg1).trans e1w
    have f1 := (hbw.cell (p := ⟨g1, _, none⟩) hg1).trans f1w
    have e2 := (hbw.cell (p := ⟨g2, _, none⟩) hg2).trans e2w
    have f2 := (hbw.cell (p := ⟨g2, _, none⟩) hg2).trans f2w
    have zg1 := Nat.lt_of_lt_of_le hg1 hbw.size
    have zg2 := Nat.lt_of_lt_of_le hg2 hbw.size
    have y1 := txR_below t1 hbw
    have y2 := txR_below t2 hbw
    have m1 := HA.out.1 _ (List.getElem_mem hk1)
    have m2 := HA.out.2 _ (List.getElem_mem hk2)
    have HNx := Hy (fun (hx : A[k] = B[k]) j (h1 : j < A.length) (h2 : j < B.length) (h : j < k + 1) => (show A[j] = B[j] by
     by_cases e : j = k
     ·subst e; exact hx
     ·exact hall j h1 h2 (by omega)))
    have HNo := Hy (fun (hx : A[k] ≠ B[k]) => (show A ≠ B from fun e => hx (by subst e; rfl)))
    obtain ⟨⟨x, lx⟩, hx⟩ : ∃ x, A[k] = x := ⟨_, rfl⟩
    obtain ⟨⟨y, ly⟩, hy⟩ : ∃ x, B[k] = x := ⟨_, rfl⟩
    have HXY := Hy (An hx hy)
    rw [hx] at e1 y1 m1
    rw [hy] at e2 y2 m2
    simp only at e1 e2 y1 y2 m1 m2
    have hS := fun W (hW : Below wr.heap.size wr W) => textr_any lx ly v1 v2 W (txR_below y1 hW) (txR_below y2 hW) m1 m2
    obtain ⟨p1, q1, rfl, _⟩ := y1
    obtain ⟨p2, q2, rfl, _⟩ := y2
    obtain ⟨n1, hn1⟩ : ∃ q, lx.length = q := ⟨_, rfl⟩
    obtain ⟨n2, hn2⟩ : ∃ q, ly.length = q := ⟨_, rfl⟩
    rw [hn1, hn2] at hS
    rw [hn1] at f1
    rw [hn2] at f2
    have hi1 : (k : Int) < (n : Int) := by omega
    have HB := Hy hb
    clear hx hy hall hb hbw hn1 hn2 m1 m2 t1 t2 e1w e2w f1w f2w hd
    cases hxy : (x == y)
    ·have HRf := Hy (show R = false by
      rw [<- HR.out, decide_eq_false_iff_not]
      rintro ⟨_, e⟩
      refine HNo.out ?_ e
      rw [HXY.out.1, HXY.out.2]
      intro e
      injection e with e1 e2
      subst e1
      simp at hxy)
     clear hS
     go_wp2
     go_quiet (fail)
     go_wp2
     go_ret
     exact bB_mk HRf.out (below_dn (HX.out.2.2.1.trans (HB.out.mono (by omega))) _)
    ·have HE := Hy (show x = y by simpa using hxy)
     obtain ⟨b, hbq⟩ : ∃ b, decide (lx = ly) = b := ⟨_, rfl⟩
     rw [hbq] at hS
     have HS := Hy hS
     have HRf := Hy (show b = false -> R = false from fun e => by
      rw [<- HR.out, decide_eq_false_iff_not]
      rintro ⟨_, e2⟩
      refine HNo.out ?_ e2
      rw [HXY.out.1, HXY.out.2]
      intro e3
      injection e3 with e4 e5
      subst e
      exact absurd e5 (by simpa using hbq))
     have HN := Hy (show b = true -> _ from fun e => HNx.out (by rw [HXY.out.1, HXY.out.2, HE.out]; subst e; rw [show lx = ly by simpa using hbq]))
     clear hbq hS
     go_wp2_with fail
     go_region_held3 (fun w' => w'.cell? ⟨w.heap.size, 1, none⟩ = some (.slice (some ⟨g1, o1, none⟩) n c1) /\ w'.cell? ⟨w.heap.size + 1, 1, none⟩ = some (.slice (some ⟨g2, o2, none⟩) n c2) /\ w'.cell? ⟨g1, o1 + k * 2, none⟩ = some (.string ⟨x.toArray⟩) /\ w'.cell? ⟨g1, o1 + k * 2 + 1, none⟩ = some (.slice p1 n1 q1) /\ w'.cell? ⟨g2, o2 + k * 2, none⟩ = some (.string ⟨y.toArray⟩) /\ w'.cell? ⟨g2, o2 + k * 2 + 1, none⟩ = some (.slice p2 n2 q2)) (first | exact ⟨hb1, hd1, he1, hf1, he2, hf2⟩ | exact ⟨b1, d1, e1, f1, e2, f2⟩ | go_keep)
      (first | (go_at_call 23; (with_reducible refine (HS.out _ (by first | exact hbW | exact (Below.refl _ wr).drew)).mono ?_); rintro en wz ⟨rfl, hb5⟩; have hbW : Below wr.heap.size wr wz := (by first | exact hbW.trans (hb5.mono hbW.size) | exact (Below.refl _ wr).drew.trans hb5); have hb1 := (hbW.cell (p := ⟨w.heap.size, 1, none⟩) z0).trans b1; have hd1 := (hbW.cell (p := ⟨w.heap.size + 1, 1, none⟩) z1).trans d1; have he1 := (hbW.cell (p := ⟨g1, o1 + k * 2, none⟩) zg1).trans e1; have hf1 := (hbW.cell (p := ⟨g1, o1 + k * 2 + 1, none⟩) zg1).trans f1; have he2 := (hbW.cell (p := ⟨g2, o2 + k * 2, none⟩) zg2).trans e2; have hf2 := (hbW.cell (p := ⟨g2, o2 + k * 2 + 1, none⟩) zg2).trans f2; clear hb5))
     all_goals
      have H5 := Hy (HB.out.trans (hbW.mono (by have := HX.out.2.2.2; have := HB.out.size; omega)))
      clear hbW hb1 hd1 he1 hf1 he2 hf2 b0 b1 d0 d1 e1 e2 f1 f2
      cases b
      ·have HRz := Hy (HRf.out rfl)
       go_wp2
       go_ret
       exact bB_mk HRz.out (HX.out.2.2.1.trans (H5.out.mono (by omega)))
      ·have HNz := Hy (HN.out rfl)
       go_wp2
       exact ⟨⟨k + 1, by go_num, by omega, H5.out, HNz.out⟩, by simp [intOf]; omega⟩
   ·obtain rfl : k = n := by omega
    have HRt := Hy (show R = true by
     rw [<- HR.out, decide_eq_true_eq]
     exact ⟨HD.out, List.ext_getElem (by rw [HL.out.1, HL.out.2]) (fun j h1 h2 => hall j h1 h2 (by rw [<- HL.out.1]; exact h1))⟩)
    have HB := Hy hbw
    clear hall hb hbw
    go_wp2
    go_ret
    exact bB_mk HRt.out HB.out
 ·have HRf := Hy (show R = false by
   rw [<- HR.out, decide_eq_false_iff_not]
   rintro ⟨_, e⟩
   subst e
   exact hnm (by rw [<- HL.out.1, <- HL.out.2]))
  have q1 : ((n : Int) != (m : Int)) = true := by rw [bne_iff_ne]; omega
  clear hnm
  go_enter Tryz.func15, Tryz.ntmps15
  go_wp2_with fail
  try rw [HW1.out]
  try go_wp2
  go_ret
  exact bB_mk HRf.out HX.out.2.2.1
def sameQ (r : Int) (value own : List UInt8) : Bool := eqP (ruN r own) (ruN r value) == 1
theorem hasE_any (r : Int) (value own : List UInt8) (b7 b6 : Nat) (w : World) (h7 : w.cell? ⟨b7, 0, none⟩ = some (.int .i64 r)) (h6 : w.cell? ⟨b6, 0, none⟩ = some (.string ⟨value.toArray⟩)) (he : ErrOk w) :
  Calls Tryz.prog 99 #[.string ⟨own.toArray⟩, .pointer (some ⟨b7, 0, none⟩), .pointer (some ⟨b6, 0, none⟩)] w (BB (sameQ r value own) w) := by
 have HE := Hy (ruequal_any r own value w he)
 obtain ⟨p, hp⟩ : ∃ p, eqP (ruN r own) (ruN r value) = p := ⟨_, rfl⟩
 have HR := Hy (show sameQ r value own = (p == 1) by unfold sameQ; rw [hp])
 rw [hp] at HE
 clear hp he
 go_enter Tryz.func99, Tryz.ntmps99
 go_wp2_with fail
 refine HE.out.mono ?_
 rintro en w1 ⟨rfl, hb⟩
 have H := Hy hb
 clear hb h7 h6
 go_wp2
 go_ret
 exact bB_mk HR.out H.out
theorem hasI_any (r : Int) (value : List UInt8) (l : List (List UInt8)) (v : Value) (b7 b6 : Nat) (w : World) (h7 : w.cell? ⟨b7, 0, none⟩ = some (.int .i64 r)) (h6 : w.cell? ⟨b6, 0, none⟩ = some (.string ⟨value.toArray⟩)) (he : ErrOk w) (h : TxR w v l) (hl : l.length <= 1000000) :
  Calls Tryz.prog 153 #[v, .func (.func 99) #[] #[.pointer (some ⟨b7, 0, none⟩), .pointer (some ⟨b6, 0, none⟩)]] w (IxPost (l.any (sameQ r value)) w) := by
 have HF := Hy (fun own W (hW : Below w.heap.size w W) => hasE_any r value own b7 b6 W ((hW.cell (p := ⟨b7, 0, none⟩) (Lib.lt_of_cell h7)).trans h7) ((hW.cell (p := ⟨b6, 0, none⟩) (Lib.lt_of_cell h6)).trans h6) (errOk_below he hW))
 obtain ⟨a, c, rfl, hcells⟩ := h
 have HM := Hy hcells
 obtain ⟨n, hn⟩ : ∃ n, l.length = n := ⟨_, rfl⟩
 have HL := Hy hn
 have HY := Hy (any_at (l := l) (q := sameQ r value))
 have HN := Hy (any_no (l := l) (q := sameQ r value))
 obtain ⟨R, hR⟩ : ∃ R, (l.any (sameQ r value)) = R := ⟨_, rfl⟩
 rw [hR] at HY HN ⊢
 rw [hn] at hl ⊢
 clear hcells hn hR h7 h6 he
 go_enter Tryz.func153, Tryz.ntmps153
 go_wp2
 go_loopw [8] (fun v wr => ∃ k : Nat, k <= n /\ v = .int .i64 (k : Nat) /\ Below w.heap.size w wr /\ ∀ j (hj : j < l.length), j < k -> sameQ r value l[j] = false) (fun v _ => n - (intOf v).toNat)
 case atStart => exact ⟨0, by omega, rfl, Below.refl _ _, fun j _ h => by omega⟩
 case round =>
  obtain ⟨k, hk, rfl, hb, hall⟩ := hrel
  have hsr := hb.size
  by_cases hlt : k < n
  ·have hkl : (k : Int) < (n : Int) := by omega
   have hkm : k < l.length := by rw [HL.out]; exact hlt
   obtain ⟨g, o, rfl, hg, e0w⟩ := HM.out k hkm
   have e0 := (hb.cell (p := ⟨g, _, none⟩) hg).trans e0w
   have hF := HF.out l[k] wr hb
   obtain ⟨bq, hbq⟩ : ∃ b, sameQ r value l[k] = b := ⟨_, rfl⟩
   have HYk := Hy (fun hx => HY.out k hkm (by rw [hbq]; exact hx))
   have HA := Hy (fun (hx : bq = false) j (hj : j < l.length) (hjk : j < k + 1) => (show sameQ r value l[j] = false by
    by_cases hjj : j = k
    ·subst hjj; rw [hbq]; exact hx
    ·exact hall j hj (by omega)))
   rw [hbq] at hF
   obtain ⟨nm, hnm⟩ : ∃ x, l[k] = x := ⟨_, rfl⟩
   rw [hnm] at e0 hF
   have HFk := Hy hF
   have HB := Hy hb
   clear hb hall e0w hbq hF hnm
   go_wp2_with fail
   refine HFk.out.mono ?_
   rintro en w5 ⟨rfl, hb5⟩
   have HB5 := Hy (HB.out.trans (hb5.mono hsr))
   clear hb5 e0
   cases bq
   ·have H := Hy (HA.out rfl)
    go_wp2
    exact ⟨⟨k + 1, by omega, by go_num, HB5.out, H.out⟩, by simp [intOf]; omega⟩
   ·have H := Hy (HYk.out rfl)
    go_wp2
    go_ret
    exact ⟨_, rfl, by rw [H.out]; simp, HB5.out⟩
  ·obtain rfl : k = n := by omega
   have H := Hy (HN.out (fun j hj => hall j hj (by rw [<- HL.out]; exact hj)))
   have HB := Hy hb
   clear hb hall
   go_wp2
   go_ret
   exact ⟨_, rfl, by rw [H.out]; rfl, HB.out⟩
theorem hasC_any (r : Int) (value : List UInt8) (l : List (List UInt8)) (v : Value) (b7 b6 : Nat) (w : World) (h7 : w.cell? ⟨b7, 0, none⟩ = some (.int .i64 r)) (h6 : w.cell? ⟨b6, 0, none⟩ = some (.string ⟨value.toArray⟩)) (he : ErrOk w) (h : TxR w v l) (hl : l.length <= 1000000) :
  Calls Tryz.prog 98 #[v, .func (.func 99) #[] #[.pointer (some ⟨b7, 0, none⟩), .pointer (some ⟨b6, 0, none⟩)]] w (BB (l.any (sameQ r value)) w) := by
 have HC := Hy (hasI_any r value l v b7 b6 w h7 h6 he h hl)
 obtain ⟨a, c, rfl, _⟩ := h
 obtain ⟨R, hR⟩ : ∃ R, (l.any (sameQ r value)) = R := ⟨_, rfl⟩
 rw [hR] at HC ⊢
 clear hR h7 h6 he
 go_enter Tryz.func98, Tryz.ntmps98
 go_wp2_with fail
 refine HC.out.mono ?_
 rintro en w1 ⟨n, rfl, hn, hb⟩
 have H := Hy hn
 clear hn
 go_wp2
 go_ret
 exact bB_mk H.out.symm hb
theorem has_any (A : List Atr) (dn attr value : List UInt8) (r : Int) (av : Value) (w : World) (h : EaAt w av A) (hf : FewE A) (hs : attr.length <= 140737488355328) (he : ErrOk w) :
  Calls Tryz.prog 48 #[.agg #[.string ⟨dn.toArray⟩, av], .string ⟨attr.toArray⟩, .string ⟨value.toArray⟩, .int .i64 r] w (BB ((geL A attr).any (sameQ r value)) w) := by
 obtain ⟨W1, hW1⟩ : ∃ W1, w.alloc (.cells #[.string ⟨dn.toArray⟩, av] 24) = W1 := ⟨_, rfl⟩
 obtain ⟨W2, hW2⟩ : ∃ W2, W1.alloc (.cells #[.string ⟨value.toArray⟩] 9) = W2 := ⟨_, rfl⟩
 obtain ⟨W3, hW3⟩ : ∃ W3, W2.alloc (.cells #[.int .i64 r] 3) = W3 := ⟨_, rfl⟩
 have s1 : W1.heap.size = w.heap.size + 1 := by rw [<- hW1]; simp
 have s2 : W2.heap.size = w.heap.size + 2 := by rw [<- hW2]; simp [s1]
 have s3 : W3.heap.size = w.heap.size + 3 := by rw [<- hW3]; simp [s2]
 have k1 : Below w.heap.size w W1 := by rw [<- hW1]; exact (Below.refl _ w).alloc (Nat.le_refl _) _
 have k2 : Below w.heap.size w W2 := by rw [<- hW2]; exact k1.alloc k1.size _
 have k3 : Below w.heap.size w W3 := by rw [<- hW3]; exact k2.alloc k2.size _
 have x1 : W1.heap[w.heap.size]? = some (.cells #[.string ⟨dn.toArray⟩, av] 24 (0, 0)) := by rw [<- hW1]; exact heap_alloc_new w _
 have x2 : W3.heap[w.heap.size]? = some (.cells #[.string ⟨dn.toArray⟩, av] 24 (0, 0)) := by rw [<- hW3, <- hW2]; exact obj_alloc (obj_alloc x1 _) _
 have y2 : W2.heap[w.heap.size + 1]? = some (.cells #[.string ⟨value.toArray⟩] 9 (0, 0)) := by
  have := heap_alloc_new W1 (.cells #[.string ⟨value.toArray⟩] 9)
  rw [hW2, s1] at this
  exact this
 have y3 : W3.heap[w.heap.size + 1]? = some (.cells #[.string ⟨value.toArray⟩] 9 (0, 0)) := by rw [<- hW3]; exact obj_alloc y2 _
 have z3 : W3.heap[w.heap.size + 2]? = some (.cells #[.int .i64 r] 3 (0, 0)) := by
  have := heap_alloc_new W2 (.cells #[.int .i64 r] 3)
  rw [hW3, s2] at this
  exact this
 have HG := Hy (get_any A dn attr av W3 (eaAt_below h k3) hf hs)
 have HW := Hy (show ((w.alloc (.cells #[.string ⟨dn.toArray⟩, av] 24)).alloc (.cells #[.string ⟨value.toArray⟩] 9)).alloc (.cells #[.int .i64 r] 3) = W3 by rw [hW1, hW2, hW3])
 have HX := Hy (An k3 (An y3 (An z3 s3)))
 have HE := Hy (errOk_below he k3)
 have HL := Hy (show (geL A attr).length <= 1000000 by
  have h1 := on_len (vaL A (lowL attr)) (vaL A (lowL attr)).length
  rw [List.take_length] at h1
  have h2 := few_take hf (lowL attr) A.length
  rw [List.take_length] at h2
  unfold geL
  omega)
 obtain ⟨i0, i1⟩ := obj2s x2
 obtain ⟨_, a, c, rfl, _⟩ := h
 obtain ⟨G, hG⟩ : ∃ G, geL A attr = G := ⟨_, rfl⟩
 rw [hG] at HG HL ⊢
 clear hW1 hW2 hW3 s1 s2 s3 k1 k2 k3 x1 x2 y2 y3 z3 he hs hf hG
 go_enter Tryz.func48, Tryz.ntmps48
 go_wp2_with fail
 rw [HW.out]
 refine HG.out.mono ?_
 rintro en w5 ⟨v, rfl, hr, hb5⟩
 obtain ⟨ra, rc, rfl⟩ := ownsRow_slice hr
 have y5 := obj_cell (obj_below HX.out.2.1 hb5 (obj_lt HX.out.2.1)) 0 _ rfl
 have z5 := obj_cell (obj_below HX.out.2.2.1 hb5 (obj_lt HX.out.2.2.1)) 0 _ rfl
 have HC := Hy (hasC_any r value G _ (w.heap.size + 2) (w.heap.size + 1) w5 z5 y5 (errOk_below HE.out hb5) (txR_owns hr) HL.out)
 have HB := Hy (HX.out.1.trans (hb5.mono HX.out.1.size))
 obtain ⟨R, hR⟩ : ∃ R, (G.any (sameQ r value)) = R := ⟨_, rfl⟩
 rw [hR] at HC
 have HR := Hy hR
 clear hr hb5 y5 z5 i0 i1 hR
 go_wp2_with fail
 refine HC.out.mono ?_
 rintro en w6 ⟨rfl, hb6⟩
 have HB6 := Hy (HB.out.trans (hb6.mono HB.out.size))
 clear hb6
 go_wp2
 go_ret
 exact bB_mk HR.out HB6.out
end Go.Proofs.YtpkbgkoocijegaaGreatDoor
