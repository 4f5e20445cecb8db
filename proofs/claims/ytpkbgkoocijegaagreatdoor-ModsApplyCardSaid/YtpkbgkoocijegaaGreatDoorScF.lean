/- The document's plain schema. -/
import Derived.Test.YtpkbgkoocijegaaGreatDoorScAD
import Derived.Test.YtpkbgkoocijegaaGreatDoorSnAL
set_option linter.unusedVariables false
set_option linter.unusedSimpArgs false
set_option maxHeartbeats 25600000
set_option maxRecDepth 100000
namespace Go.Proofs.YtpkbgkoocijegaaGreatDoor
open Go Go.RowKit Go.Proofs.BerK Go.Proofs.MemK Go.Proofs.UtfK
theorem rt9_any (s : ByteArray) (r : Int) (b : Bool) (w : World) : Calls Tryz.prog 35 #[.string s, .int .i64 r, .bool b] w (fun en w' => en = .returned (.agg #[.string s, .int .i64 r, .bool b]) /\ Below w.heap.size w w') := by
 obtain ⟨W0, hW0⟩ : ∃ W0, w.alloc (.cells #[.string s, .int .i64 r, .bool b] 79) = W0 := ⟨_, rfl⟩
 have x0 : W0.heap[w.heap.size]? = some (.cells #[.string s, .int .i64 r, .bool b] 79 (0, 0)) := by rw [<- hW0]; exact heap_alloc_new w _
 have hb0 : Below w.heap.size w W0 := by rw [<- hW0]; exact (Below.refl _ w).alloc (Nat.le_refl _) _
 have HW0 := Hy hW0
 have HB := Hy hb0
 have HX := Hy x0
 clear hW0 hb0 x0
 go_enter Tryz.func35, Tryz.ntmps35
 go_wp2
 rw [HW0.out]
 obtain ⟨j0, j1, j2⟩ := obj3 HX.out
 refine bodyPost_ret (v := .agg #[.string s, .int .i64 r, .bool b]) (by simp [results, Tryz.results35, go_sem, *]) rfl ?_
 exact ⟨rfl, HB.out⟩
theorem set2_s9 {w : World} {g : Nat} {a b : Value} {t : TypeId} (h : w.heap[g]? = some (.cells #[a, b] t (0, 0))) (c d : Value) : ((w.setCell ⟨g, 0, none⟩ c).setCell ⟨g, 1, none⟩ d).heap[g]? = some (.cells #[c, d] t (0, 0)) := obj_set (obj_set h 0 c) 1 d
theorem not_box {w : World} {b k : Nat} {s : ByteArray} {t : TypeId} (h : w.heap[b]? = some (.cells #[.slice none 0 0, .slice none 0 0] t (0, 0))) (hc : w.cell? ⟨b, k, none⟩ = some (.string s)) : False := by
 rw [cell_of_row w b k _ t (0, 0) h] at hc
 match k with
 | 0 => cases hc
 | 1 => cases hc
 | k + 2 => simp at hc
theorem txR_box {w w' : World} {b : Nat} {t : TypeId} {v : Value} {l : List (List UInt8)} (h : w.heap[b]? = some (.cells #[.slice none 0 0, .slice none 0 0] t (0, 0))) (hc : Chg (fun k => k = b) w w') (hv : TxR w v l) : TxR w' v l := by
 obtain ⟨a, c, rfl, hq⟩ := hv
 refine ⟨a, c, rfl, fun i hi => ?_⟩
 obtain ⟨g, o, h1, h2, h3⟩ := hq i hi
 have hne : g ≠ b := fun e => by subst e; exact not_box h h3
 exact ⟨g, o, h1, Nat.lt_of_lt_of_le h2 hc.size, (World.cell?_of_block (w := w) (a := ⟨g, _, none⟩) (hc.block g h2 hne)).trans h3⟩
theorem clAt_box {w w' : World} {b : Nat} {t : TypeId} {v : Value} {C : List Cl} (h : w.heap[b]? = some (.cells #[.slice none 0 0, .slice none 0 0] t (0, 0))) (hc : Chg (fun k => k = b) w w') (hv : ClAt w v C) : ClAt w' v C := by
 obtain ⟨a, c, rfl, hq⟩ := hv
 refine ⟨a, c, rfl, fun i hi => ?_⟩
 obtain ⟨g, o, mu, ma, h1, h2, h3, h4, h5, h6, h7, h8⟩ := hq i hi
 have hne : g ≠ b := fun e => by subst e; exact not_box h h3
 have hcl := fun k => World.cell?_of_block (w := w) (a := ⟨g, k, none⟩) (hc.block g h2 hne)
 exact ⟨g, o, mu, ma, h1, Nat.lt_of_lt_of_le h2 hc.size, (hcl _).trans h3, (hcl _).trans h4, (hcl _).trans h5, txR_box h hc h6, txR_box h hc h7, h8⟩
def RPlain (w : World) (en : Ending) (w' : World) : Prop := ∃ tv cv, en = .returned (.agg #[tv, cv]) /\ TyAt w' tv plT /\ ClAt w' cv plC /\ Below w.heap.size w w'
theorem rplain9_any (w : World) : Calls Tryz.prog 11 #[] w (RPlain w) := by
 obtain ⟨W0, hW0⟩ : ∃ W0, w.alloc (.cells #[.slice none 0 0, .slice none 0 0] 34) = W0 := ⟨_, rfl⟩
 have x0 : W0.heap[w.heap.size]? = some (.cells #[.slice none 0 0, .slice none 0 0] 34 (0, 0)) := by rw [<- hW0]; exact heap_alloc_new w _
 have hb0 : Below w.heap.size w W0 := by rw [<- hW0]; exact (Below.refl _ w).alloc (Nat.le_refl _) _
 have H0 := Hy (An x0 hb0)
 have HW0 := Hy hW0
 have HT := Hy rt9_any
 have hbW : Below W0.heap.size W0 W0 := Below.refl _ _
 have HBW := Hy hbW
 clear hW0 x0 hb0 hbW
 go_enter Tryz.func11, Tryz.ntmps11
 go_wp2_with fail
 rw [HW0.out]
 refine (HT.out _ _ _ _).mono ?_
 rintro en w1 ⟨rfl, hb⟩
 have HBW := Hy (HBW.out.trans (hb.mono HBW.out.size))
 clear hb
 iterate 12
  go_wp2_with fail
  refine (HT.out _ _ _ _).mono ?_
  rintro en w1 ⟨rfl, hb⟩
  have HBW := Hy (HBW.out.trans (hb.mono HBW.out.size))
  clear hb
 have y1 := obj_below H0.out.1 HBW.out (obj_lt H0.out.1)
 have hz1 := obj_lt y1
 obtain ⟨q0, q1⟩ := obj2s y1
 have p0 := obj_free y1 0
 have p1 := obj_free y1 1
 have r0 : ∀ (a1 a2 a3 a4 a5 a6 a7 a8 a9 a10 : Obj), ((((((((((w1.alloc a1).alloc a2).alloc a3).alloc a4).alloc a5).alloc a6).alloc a7).alloc a8).alloc a9).alloc a10).cell? ⟨w.heap.size, 0, none⟩ = some (.slice none 0 0) := fun a1 a2 a3 a4 a5 a6 a7 a8 a9 a10 => ((((((((((((Below.refl w1.heap.size w1).alloc (Nat.le_refl _) a1).alloc (by simp <;> omega) a2).alloc (by simp <;> omega) a3).alloc (by simp <;> omega) a4).alloc (by simp <;> omega) a5).alloc (by simp <;> omega) a6).alloc (by simp <;> omega) a7).alloc (by simp <;> omega) a8).alloc (by simp <;> omega) a9).alloc (by simp <;> omega) a10).cell (p := ⟨w.heap.size, 0, none⟩) hz1).trans q0
 have f0 : ∀ (a1 a2 a3 a4 a5 a6 a7 a8 a9 a10 : Obj), ((((((((((w1.alloc a1).alloc a2).alloc a3).alloc a4).alloc a5).alloc a6).alloc a7).alloc a8).alloc a9).alloc a10).frozen? ⟨w.heap.size, 0, none⟩ = false := fun a1 a2 a3 a4 a5 a6 a7 a8 a9 a10 => ((((((((((((Below.refl w1.heap.size w1).alloc (Nat.le_refl _) a1).alloc (by simp <;> omega) a2).alloc (by simp <;> omega) a3).alloc (by simp <;> omega) a4).alloc (by simp <;> omega) a5).alloc (by simp <;> omega) a6).alloc (by simp <;> omega) a7).alloc (by simp <;> omega) a8).alloc (by simp <;> omega) a9).alloc (by simp <;> omega) a10).frozen (p := ⟨w.heap.size, 0, none⟩) hz1).trans p0
 have r1 : ∀ (a1 a2 a3 a4 a5 a6 a7 a8 a9 a10 : Obj), ((((((((((w1.alloc a1).alloc a2).alloc a3).alloc a4).alloc a5).alloc a6).alloc a7).alloc a8).alloc a9).alloc a10).cell? ⟨w.heap.size, 1, none⟩ = some (.slice none 0 0) := fun a1 a2 a3 a4 a5 a6 a7 a8 a9 a10 => ((((((((((((Below.refl w1.heap.size w1).alloc (Nat.le_refl _) a1).alloc (by simp <;> omega) a2).alloc (by simp <;> omega) a3).alloc (by simp <;> omega) a4).alloc (by simp <;> omega) a5).alloc (by simp <;> omega) a6).alloc (by simp <;> omega) a7).alloc (by simp <;> omega) a8).alloc (by simp <;> omega) a9).alloc (by simp <;> omega) a10).cell (p := ⟨w.heap.size, 1, none⟩) hz1).trans q1
 have f1 : ∀ (a1 a2 a3 a4 a5 a6 a7 a8 a9 a10 : Obj), ((((((((((w1.alloc a1).alloc a2).alloc a3).alloc a4).alloc a5).alloc a6).alloc a7).alloc a8).alloc a9).alloc a10).frozen? ⟨w.heap.size, 1, none⟩ = false := fun a1 a2 a3 a4 a5 a6 a7 a8 a9 a10 => ((((((((((((Below.refl w1.heap.size w1).alloc (Nat.le_refl _) a1).alloc (by simp <;> omega) a2).alloc (by simp <;> omega) a3).alloc (by simp <;> omega) a4).alloc (by simp <;> omega) a5).alloc (by simp <;> omega) a6).alloc (by simp <;> omega) a7).alloc (by simp <;> omega) a8).alloc (by simp <;> omega) a9).alloc (by simp <;> omega) a10).frozen (p := ⟨w.heap.size, 1, none⟩) hz1).trans p1
 have HBw1 := Hy (H0.out.2.trans (HBW.out.mono H0.out.2.size))
 have hty := tyAt_new w1 plT 79
 have hcl := plC_at (w1.alloc (.cells (tycs plT).toArray 79))
 have hbA := allocs_below 9 plLs (w1.alloc (.cells (tycs plT).toArray 79))
 rw [World.size_alloc] at hcl hbA
 obtain ⟨WA, hWA⟩ : ∃ WA, (allocs 9 (w1.alloc (.cells (tycs plT).toArray 79)) plLs).alloc (.cells (clcs (plRow (w1.heap.size + 1))).toArray 82) = WA := ⟨_, rfl⟩
 have hbB : Below (w1.heap.size + 1) (w1.alloc (.cells (tycs plT).toArray 79)) WA := by rw [<- hWA]; exact hbA.alloc (by have := hbA.size; simpa using this) _
 have hb1A : Below w1.heap.size w1 (w1.alloc (.cells (tycs plT).toArray 79)) := (Below.refl _ w1).alloc (Nat.le_refl _) _
 have hbF : Below w1.heap.size w1 WA := hb1A.trans (hbB.mono (by omega))
 have htyF : TyAt WA (.slice (some ⟨w1.heap.size, 0, none⟩) 13 13) plT := tyAt_below hty (by rw [World.size_alloc]; exact hbB)
 have hclF : ClAt WA (.slice (some ⟨w1.heap.size + 1 + 8, 0, none⟩) 5 5) plC := by rw [<- hWA]; exact hcl
 have hyF := obj_below y1 hbF hz1
 have ch : Chg (fun k => k = w.heap.size) WA ((WA.setCell ⟨w.heap.size, 0, none⟩ (.slice (some ⟨w1.heap.size, 0, none⟩) 13 13)).setCell ⟨w.heap.size, 1, none⟩ (.slice (some ⟨w1.heap.size + 1 + 8, 0, none⟩) 5 5)) :=
  ((Chg.refl (fun k => k = w.heap.size) WA).setCell (p := ⟨w.heap.size, 0, none⟩) (fun _ => rfl) _).setCell (p := ⟨w.heap.size, 1, none⟩) (fun _ => rfl) _
 have hbw1 : Below w.heap.size w w1 := HBw1.out
 have HF := Hy (An hyF (An htyF (An hclF (An ch (hbw1.trans (hbF.mono hbw1.size))))))
 have HWA := Hy hWA
 have hw1 : w.heap.size < w1.heap.size := hz1
 clear y1 q0 q1 p0 p1 hty hcl hbA hbB hb1A hbF htyF hclF hyF ch hbw1 hWA
 go_wp2
 change bodyPost _ _ _ _ _ ((((allocs 9 (w1.alloc (.cells (tycs plT).toArray 79)) plLs).alloc (.cells (clcs (plRow (w1.heap.size + 1))).toArray 82)).setCell ⟨w.heap.size, 0, none⟩ (.slice (some ⟨w1.heap.size, 0, none⟩) 13 13)).setCell ⟨w.heap.size, 1, none⟩ (.slice (some ⟨w1.heap.size + 1 + 8, 0, none⟩) 5 5))
 rw [HWA.out]
 clear r0 r1 f0 f1
 obtain ⟨j0, j1⟩ := obj2s (set2_s9 HF.out.1 (.slice (some ⟨w1.heap.size, 0, none⟩) 13 13) (.slice (some ⟨w1.heap.size + 1 + 8, 0, none⟩) 5 5))
 refine bodyPost_ret (v := .agg #[.slice (some ⟨w1.heap.size, 0, none⟩) 13 13, .slice (some ⟨w1.heap.size + 1 + 8, 0, none⟩) 5 5]) (by simp [results, Tryz.results11, go_sem, *]) rfl ?_
 exact ⟨_, _, rfl, tyAt_chg HF.out.2.1 HF.out.2.2.2.1 (fun g o n c e => by injection e with e; injection e with e; injection e with e; show ¬ g = w.heap.size; omega), clAt_box HF.out.1 HF.out.2.2.2.1 HF.out.2.2.1, HF.out.2.2.2.2.trans (HF.out.2.2.2.1.toBelow HF.out.2.2.2.2.size (fun k _ hk => by have hk : k = w.heap.size := hk; omega))⟩
end Go.Proofs.YtpkbgkoocijegaaGreatDoor
