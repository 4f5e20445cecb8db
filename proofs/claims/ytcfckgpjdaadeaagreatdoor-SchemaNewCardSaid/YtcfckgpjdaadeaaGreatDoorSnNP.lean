/- The code's norms: the values of attributes as they count. The code's namesOf and hasTwice: the places of types' names; whether two values are the same. The code's hasTwice, hasTooMany, and whether an attribute has no values. -/
import Derived.Test.YtcfckgpjdaadeaaGreatDoorSnJK
import Derived.Test.YtcfckgpjdaadeaaGreatDoorRuAD
namespace Go.Proofs.YtcfckgpjdaadeaaGreatDoor
set_option linter.unusedSimpArgs false
set_option linter.unusedVariables false
open Go Go.RowKit Go.Proofs.BerK Go.Proofs.MemK Go.Proofs.UtfK

/-- Rows of texts in memory, to be read. -/
def GrAt (w : World) (v : Value) (G : List (List (List UInt8))) : Prop :=
  ∃ a c, v = .slice a G.length c ∧ ∀ i (hi : i < G.length), ∃ g o vl, a = some ⟨g, o, none⟩ ∧ g < w.heap.size ∧ w.cell? ⟨g, o + i, none⟩ = some vl ∧ TxR w vl G[i]
theorem grAt_below {w w' : World} {v : Value} {G : List (List (List UInt8))} (h : GrAt w v G) (hb : Below w.heap.size w w') : GrAt w' v G := by
  obtain ⟨a, c, rfl, h⟩ := h
  refine ⟨a, c, rfl, fun i hi => ?_⟩
  obtain ⟨g, o, vl, h1, h2, h3, h4⟩ := h i hi
  exact ⟨g, o, vl, h1, Nat.lt_of_lt_of_le h2 hb.size, (hb.cell (p := ⟨g, _, none⟩) h2).trans h3, txR_below h4 hb⟩
theorem txR_chg {S : Nat → Prop} {w w' : World} {v : Value} {l : List (List UInt8)} (h : TxR w v l) (hc : Chg S w w') (hs : ∀ g o n c, v = .slice (some ⟨g, o, none⟩) n c → ¬ S g) : TxR w' v l := by
  obtain ⟨a, c, rfl, h⟩ := h
  refine ⟨a, c, rfl, fun i hi => ?_⟩
  obtain ⟨g, o, rfl, h2, h3⟩ := h i hi
  exact ⟨g, o, rfl, Nat.lt_of_lt_of_le h2 hc.size, (World.cell?_of_block (w := w) (a := ⟨g, o + i, none⟩) (hc.block g h2 (hs g o _ _ rfl))).trans h3⟩
/-- The values of an attribute of a type as they count. -/
def nmV (t : Ty) (a : Atr) : List (List UInt8) := a.2.map fun s => (ruN t.2.1 s).1
def nmG (TL : List Ty) (A : List Atr) : List (List (List UInt8)) := List.zipWith nmV TL A
def nmOk (TL : List Ty) (A : List Atr) : Bool := (List.zipWith (fun t a => a.2.all fun s => (ruN t.2.1 s).2) TL A).all id
theorem nmOk_bad {TL : List Ty} {A : List Atr} (k : Nat) (h1 : k < TL.length) (h2 : k < A.length) (j : Nat) (hj : j < A[k].2.length) (h : (ruN TL[k].2.1 A[k].2[j]).2 = false) : nmOk TL A = false := by
  unfold nmOk
  rw [List.all_eq_false]
  refine ⟨(A[k].2.all fun s => (ruN TL[k].2.1 s).2), ?_, ?_⟩
  · rw [List.mem_iff_getElem]
    exact ⟨k, by simp; omega, by simp⟩
  · simp only [id, Bool.not_eq_true]
    rw [List.all_eq_false]
    exact ⟨A[k].2[j], List.getElem_mem hj, by rw [h]; simp⟩
theorem nmOk_good {TL : List Ty} {A : List Atr} (h : ∀ k (h1 : k < TL.length) (h2 : k < A.length) j (hj : j < A[k].2.length), (ruN TL[k].2.1 A[k].2[j]).2 = true) : nmOk TL A = true := by
  unfold nmOk
  rw [List.all_eq_true]
  intro x hx
  obtain ⟨k, hk, rfl⟩ := List.getElem_of_mem hx
  simp only [List.getElem_zipWith, id]
  rw [List.all_eq_true]
  intro s hs
  obtain ⟨j, hj, rfl⟩ := List.getElem_of_mem hs
  exact h k (by simp at hk; omega) (by simp at hk; omega) j hj
def NmsPost (TL : List Ty) (A : List Atr) (w : World) (en : Ending) (w' : World) : Prop :=
  (nmOk TL A = false → en = .returned (.tuple #[.slice none 0 0, .bool false])) ∧ (nmOk TL A = true → ∃ v, en = .returned (.tuple #[v, .bool true]) ∧ GrAt w' v (nmG TL A)) ∧ Below w.heap.size w w'
theorem nmsPost_bad {TL : List Ty} {A : List Atr} {w w' : World} (h : nmOk TL A = false) (hb : Below w.heap.size w w') : NmsPost TL A w (.returned (.tuple #[.slice none 0 0, .bool false])) w' :=
  ⟨fun _ => rfl, (fun h2 => by rw [h] at h2; cases h2), hb⟩
theorem nmsPost_ok {TL : List Ty} {A : List Atr} {w w' : World} {v : Value} (h : nmOk TL A = true) (ht : GrAt w' v (nmG TL A)) (hb : Below w.heap.size w w') : NmsPost TL A w (.returned (.tuple #[v, .bool true])) w' :=
  ⟨(fun h2 => by rw [h] at h2; cases h2), fun _ => ⟨v, rfl, ht⟩, hb⟩
theorem Tryz.sninfo38 : (Tryz.prog.info? 38).map (fun i => (i.zero, i.size, i.bytes)) = some (some (.slice none 0 0), 1, 24) := by kernel_rfl
theorem made_gr (n : Nat) (W : World) (hn : n ≤ 1000000) : (Instr.makeSlice 85 (.int .i64 (n : Int)) (.int .i64 (n : Int))).run Tryz.prog W = .ok (.slice (some ⟨W.heap.size, 0, none⟩) n n) (W.alloc (.cells (List.replicate n (Value.slice none 0 0)).toArray 38)) := by
  obtain ⟨i0, hi, hz0, hz1, hz2⟩ := info_parts Tryz.sninfo38
  have h := run_make (P := Tryz.prog) W 85 38 i0 (.slice none 0 0) Tryz.underlying85 hi hz0 .i64 .i64 (n : Int) (n : Int) (by omega) (by omega) (by rw [hz2]; omega) (by omega)
  have e : madeCells (Value.slice none 0 0).cells ((n : Int).toNat * i0.size) = (List.replicate n (Value.slice none 0 0)).toArray := by
    apply Array.ext'
    rw [hz1, show (n : Int).toNat * 1 = n by omega]
    exact (toList_madeCells_one _ n).trans (by simp)
  rw [e] at h
  simpa using h
/-- Rows that are done: each lies in a block of its own, apart from the outer one. -/
def DoneR (w : World) (B : Nat) (vs : List Value) (G : List (List (List UInt8))) (k : Nat) : Prop :=
  ∀ i (h1 : i < vs.length) (h2 : i < G.length), i < k → TxR w vs[i] G[i] ∧ ∀ g o n c, vs[i] = .slice (some ⟨g, o, none⟩) n c → g ≠ B
theorem doneR_chg {w w' : World} {B : Nat} {vs : List Value} {G : List (List (List UInt8))} {k : Nat} (h : DoneR w B vs G k) (hc : Chg (fun j => j = B) w w') : DoneR w' B vs G k := fun i h1 h2 hi =>
  ⟨txR_chg (h i h1 h2 hi).1 hc (fun g o n c e => (h i h1 h2 hi).2 g o n c e), (h i h1 h2 hi).2⟩
theorem doneR_set {w : World} {B : Nat} {vs : List Value} {G : List (List (List UInt8))} {k : Nat} (h : DoneR w B vs G k) (hk : k < vs.length) (hk2 : k < G.length) (v : Value) (hv : TxR w v G[k]) (hb : ∀ g o n c, v = .slice (some ⟨g, o, none⟩) n c → g ≠ B) : DoneR w B (vs.set k v) G (k + 1) := by
  intro i h1 h2 hi
  by_cases e : i = k
  · subst e
    rw [List.getElem_set_self]
    exact ⟨hv, hb⟩
  · rw [List.getElem_set_ne (fun h => e h.symm)]
    exact h i (by simpa using h1) h2 (by omega)
theorem doneR_keep {w : World} {B : Nat} {vs : List Value} {G : List (List (List UInt8))} {k : Nat} (h : DoneR w B vs G k) (v : Value) : DoneR w B (vs.set k v) G k := by
  intro i h1 h2 hi
  rw [List.getElem_set_ne (by omega)]
  exact h i (by simpa using h1) h2 hi
set_option maxHeartbeats 6400000 in
set_option maxRecDepth 100000 in
theorem norms_any (TL : List Ty) (A : List Atr) (tv v : Value) (w : World) (hT : TyAt w tv TL) (hA : AtAt w v A) (hl2 : TL.length = A.length) (hl : A.length ≤ 1000000) (hv : ∀ a ∈ A, a.2.length ≤ 1000000) (he : ErrOk w) :
    Calls Tryz.prog 45 #[tv, v] w (NmsPost TL A w) := by
  obtain ⟨ta, tc, rfl, htc⟩ := hT
  obtain ⟨a, c, rfl, hcells⟩ := hA
  have HT := Lib.hid htc
  have HM := Lib.hid hcells
  have HV := Lib.hid hv
  have HE := Lib.hid he
  have HBad := Lib.hid (nmOk_bad (TL := TL) (A := A))
  have HGood := Lib.hid (nmOk_good (TL := TL) (A := A))
  obtain ⟨n, hn⟩ : ∃ n, A.length = n := ⟨_, rfl⟩
  have hnT : TL.length = n := hl2.trans hn
  have HL := Lib.hid (And.intro hn hnT)
  obtain ⟨G, hG⟩ : ∃ G, nmG TL A = G := ⟨_, rfl⟩
  have hGl : G.length = n := by rw [← hG]; unfold nmG; simp; omega
  have HG := Lib.hid (And.intro hG hGl)
  rw [hn] at hl ⊢
  rw [hnT]
  have hmk := fun W => made_gr n W hl
  obtain ⟨M, hM⟩ : ∃ M, (List.replicate n (Value.slice none 0 0)).toArray = M := ⟨_, rfl⟩
  rw [hM] at hmk
  obtain ⟨W1, hW1⟩ : ∃ W1, w.alloc (.cells M 38) = W1 := ⟨_, rfl⟩
  have hb0 : Below w.heap.size w W1 := by rw [← hW1]; exact (Below.refl _ w).alloc (Nat.le_refl _) _
  have x0 : W1.heap[w.heap.size]? = some (.cells (List.replicate n (Value.slice none 0 0)).toArray 38 (0, 0)) := by rw [← hW1, hM]; exact heap_alloc_new w _
  have HX := Lib.hid (And.intro hb0 x0)
  have HW1 := Lib.hid hW1
  clear htc hcells hv he hn hnT hG hGl hM hW1 hb0 x0 hl2
  go_enter Tryz.func45, Tryz.ntmps45
  go_wp2
  rw [HW1.out]
  clear hmk
  go_loopw [18] (fun v wr => ∃ (k : Nat) (vs : List Value), k ≤ n ∧ v = .int .i64 (k : Nat) ∧ vs.length = n ∧ wr.heap[w.heap.size]? = some (.cells vs.toArray 38 (0, 0)) ∧ (∀ i (h : i < vs.length), k ≤ i → vs[i] = .slice none 0 0) ∧ DoneR wr w.heap.size vs G k ∧ Below w.heap.size w wr ∧
      ∀ i (h1 : i < TL.length) (h2 : i < A.length) j (hj : j < A[i].2.length), i < k → (ruN TL[i].2.1 A[i].2[j]).2 = true) (fun v _ => n - (intOf v).toNat)
  case atStart => exact ⟨0, List.replicate n (.slice none 0 0), by omega, rfl, by simp, HX.out.2, fun i h _ => by simp, fun i h1 h2 h => by omega, HX.out.1, fun i h1 h2 j hj h => by omega⟩
  case round =>
    obtain ⟨k, vs, hk, rfl, hvl, hblk, hnil, hdone, hb, hall⟩ := hrel
    obtain ⟨wo, rfl⟩ : ∃ wo, wo = wr := ⟨_, rfl⟩
    have hsr := hb.size
    by_cases hlt : k < n
    · have hkl : (k : Int) < (n : Int) := by omega
      have hkm : k < A.length := by rw [HL.out.1]; exact hlt
      have hkT : k < TL.length := by rw [HL.out.2]; exact hlt
      have hkG : k < G.length := by rw [HG.out.2]; exact hlt
      have hkv : k < vs.length := by rw [hvl]; exact hlt
      obtain ⟨g1, o1, vl, rfl, hg1, e0w, e1w, hvlx⟩ := HM.out k hkm
      obtain ⟨g2, o2, rfl, hg2, t0w, t1w, t2w⟩ := HT.out k hkT
      obtain ⟨va, vc, rfl, hvx⟩ := hvlx
      have HVX := Lib.hid hvx
      have e0 := (hb.cell (p := ⟨g1, _, none⟩) hg1).trans e0w
      have e1 := (hb.cell (p := ⟨g1, _, none⟩) hg1).trans e1w
      have hvln := HV.out _ (List.getElem_mem hkm)
      have hzr : w.heap.size < wo.heap.size := obj_lt hblk
      obtain ⟨m, hm⟩ : ∃ x, A[k].2.length = x := ⟨_, rfl⟩
      have HMl := Lib.hid hm
      rw [hm] at e1 hvln
      obtain ⟨rl, hrl⟩ : ∃ x, TL[k].2.1 = x := ⟨_, rfl⟩
      rw [hrl] at t1w
      have hGk : G[k] = (A[k].2.map fun s => (ruN rl s).1) := by
        have := HG.out.1
        subst this
        simp [nmG, nmV, hrl]
      have HGk := Lib.hid hGk
      have hB1 : ∀ j (hj : j < A[k].2.length), (ruN rl A[k].2[j]).2 = false → nmOk TL A = false := fun j hj h => HBad.out k hkT hkm j hj (by rw [hrl]; exact h)
      have HB1 := Lib.hid hB1
      obtain ⟨nm, hnm⟩ : ∃ x, A[k].1 = x := ⟨_, rfl⟩
      rw [hnm] at e0
      obtain ⟨W2, hW2⟩ : ∃ W2, wo.alloc (.cells #[.string ⟨nm.toArray⟩, .slice va m vc] 63) = W2 := ⟨_, rfl⟩
      have hb2 : Below wo.heap.size wo W2 := by rw [← hW2]; exact (Below.refl _ wo).alloc (Nat.le_refl _) _
      have y2 : W2.heap[wo.heap.size]? = some (.cells #[.string ⟨nm.toArray⟩, .slice va m vc] 63 (0, 0)) := by rw [← hW2]; exact heap_alloc_new wo _
      obtain ⟨i0, i1⟩ := obj2s y2
      have hkn := hnil k hkv (Nat.le_refl _)
      have hvs0 : vs.set k (.slice none 0 0) = vs := by
        rw [← hkn]; exact List.set_getElem_self hkv
      have hall2 : (∀ j (hj : j < A[k].2.length), (ruN rl A[k].2[j]).2 = true) → ∀ i (h1 : i < TL.length) (h2 : i < A.length) j (hj : j < A[i].2.length), i < k + 1 → (ruN TL[i].2.1 A[i].2[j]).2 = true := by
        intro hx i h1 h2 j hj hi
        by_cases e : i = k
        · subst e; rw [hrl]; exact hx j hj
        · exact hall i h1 h2 j hj (by omega)
      have HAl := Lib.hid hall2
      have HI := Lib.hid (And.intro hvl (And.intro hblk (And.intro hnil (And.intro hdone (And.intro hb hvs0)))))
      have HW2 := Lib.hid hW2
      have HB2 := Lib.hid hb2
      have HT1 := Lib.hid t1w
      clear hvl hblk hnil hdone hb hvs0 hall hall2 hW2 hb2 y2 hkn hnm hrl hGk hB1 hm hvx e0w e1w t0w t1w t2w
      go_wp2
      rw [HW2.out]
      clear i0 i1 e0 e1
      go_loopw [26] (fun v wz => ∃ (j : Nat) (cv : Value), j ≤ m ∧ v = .int .i64 (j : Nat) ∧ wz.heap[w.heap.size]? = some (.cells (vs.set k cv).toArray 38 (0, 0)) ∧ wz.ownsRow wo.heap.size 9 1 cv j (sc (G[k].take j)) ∧ Chg (fun i => i = w.heap.size) wo wz ∧
          ∀ q (hq : q < A[k].2.length), q < j → (ruN rl A[k].2[q]).2 = true) (fun v _ => m - (intOf v).toNat)
      case atStart => exact ⟨0, .slice none 0 0, by omega, rfl, by rw [HI.out.2.2.2.2.2]; exact obj_below HI.out.2.1 HB2.out hzr, ⟨rfl, .inl ⟨rfl, rfl⟩⟩, Chg.ofBelow HB2.out, fun q _ h => by omega⟩
      case round =>
        obtain ⟨j, cv, hj, rfl, hblk, hrow, hch, hgood⟩ := hrel
        have hsz := hch.size
        have hbw : Below w.heap.size w wr := HI.out.2.2.2.2.1.trans (hch.toBelow hsr (fun i _ h => by have h : i = w.heap.size := h; omega))
        have hkvs : k < (vs.set k cv).length := by rw [List.length_set]; exact hkv
        obtain ⟨ca, cc, rfl⟩ := ownsRow_slice hrow
        by_cases hjl : j < m
        · have hji : (j : Int) < (m : Int) := by omega
          have hjm : j < A[k].2.length := by rw [HMl.out]; exact hjl
          obtain ⟨g3, o3, rfl, hg3, vw⟩ := HVX.out j hjm
          have v0 := (hbw.cell (p := ⟨g3, _, none⟩) hg3).trans vw
          have t1 := (hbw.cell (p := ⟨g2, _, none⟩) hg2).trans HT1.out
          have HB1j := Lib.hid (HB1.out j hjm)
          have hjG : j < G[k].length := by rw [HGk.out]; simpa using hjm
          have hGj : G[k][j] = (ruN rl A[k].2[j]).1 := by simp [HGk.out]
          obtain ⟨s, hs⟩ : ∃ s, A[k].2[j] = s := ⟨_, rfl⟩
          have hgd2 : (ruN rl s).2 = true → ∀ q (hq : q < A[k].2.length), q < j + 1 → (ruN rl A[k].2[q]).2 = true := by
            intro hx q hq hqj
            by_cases e : q = j
            · subst e; rw [hs]; exact hx
            · exact hgood q hq (by omega)
          rw [hs] at v0 hGj HB1j
          have HN := Lib.hid (runorm_any rl s wr (errOk_below HE.out hbw))
          have HJ := Lib.hid (And.intro hblk (And.intro hrow (And.intro hch (And.intro hbw (And.intro hjG hGj)))))
          obtain ⟨⟨x, ok⟩, hp⟩ : ∃ p, ruN rl s = p := ⟨_, rfl⟩
          rw [hp] at HN HB1j hgd2
          have HGd := Lib.hid hgd2
          have HP := Lib.hid (show (ruN rl s).1 = x by rw [hp])
          have hbz : w.heap.size < wr.heap.size := obj_lt hblk
          clear hblk hrow hch hbw hgood vw hs hp hgd2 hGj
          go_wp2_with fail
          refine HN.out.mono ?_
          rintro en w5 ⟨rfl, hb5⟩
          have hb5s := hb5.size
          cases ok with
          | false =>
            have HQ := Lib.hid (And.intro (HB1j.out rfl) (HJ.out.2.2.2.1.trans (hb5.mono HJ.out.2.2.2.1.size)))
            clear hb5 v0 t1
            go_wp2
            go_ret2
            exact nmsPost_bad HQ.out.1 HQ.out.2
          | true =>
            have HQ := Lib.hid (HGd.out rfl)
            have blk5 := obj_below HJ.out.1 hb5 hbz
            have row5 := ownsRow_below HJ.out.2.1 hb5
            have ch5 : Chg (fun i => i = w.heap.size) wo w5 := HJ.out.2.2.1.below (hb5.mono hsz)
            have c5 := obj_cell blk5 k (.slice ca j cc) (by simp [hkv])
            have HK := Lib.hid (And.intro blk5 (And.intro row5 ch5))
            have hz5 : w.heap.size < w5.heap.size := obj_lt blk5
            have hso5 : wo.heap.size ≤ w5.heap.size := ch5.size
            clear hb5 v0 t1 blk5 row5 ch5
            go_wp2_with (at_builtin; refine wpList_pushc rfl (.tmp 47) (.tmp 49) 38 9 rfl wo.heap.size 1 16 _ Tryz.sninfo9 Tryz.underlying38 rfl (by decide) [_] rfl (by intro u hu; simp at hu; subst hu; rfl) (.slice ca j cc) j (sc (G[k].take j)) rfl _ rfl rfl HK.out.2.1 (by unfold maxLen; omega) (by omega) hso5 ?_; intro v' w' h1 h2 h3; obtain ⟨na, nc, rfl⟩ := ownsRow_slice h1; have g9 := obj_chg HK.out.1 h2 (fun e => by have := (HK.out.2.1.lt _ e.symm).1; omega); have q1 := obj_free g9 k; have q2 := obj_cell g9 k (.slice ca j cc) (by simp [hkv]))
            have hblk6 : (w'.setCell ⟨w.heap.size, k, none⟩ (.slice na (j + 1) nc)).heap[w.heap.size]? = some (.cells (vs.set k (.slice na (j + 1) nc)).toArray 38 (0, 0)) := by
              have := obj_set g9 k (.slice na (j + 1) nc)
              rw [List.setIfInBounds_toArray, List.set_set] at this
              exact this
            have chS : Chg (fun i => i = w.heap.size) w' (w'.setCell ⟨w.heap.size, k, none⟩ (.slice na (j + 1) nc)) := (Chg.refl (fun i => i = w.heap.size) w').setCell (p := ⟨w.heap.size, k, none⟩) (fun _ => rfl) _
            have hch6 : Chg (fun i => i = w.heap.size) wo (w'.setCell ⟨w.heap.size, k, none⟩ (.slice na (j + 1) nc)) := (HK.out.2.2.trans h2 (fun i hi h => by have := (HK.out.2.1.lt i h.symm).1; omega)).trans chS (fun _ _ h => h)
            have hrow6 := ownsRow_chg h1 chS (fun i hi e => by have := (h1.lt i hi).1; have e : i = w.heap.size := e; omega)
            refine ⟨⟨j + 1, .slice na (j + 1) nc, by omega, by go_num, hblk6, ?_, hch6, HQ.out⟩, by simp [intOf]; omega⟩
            rw [List.take_succ_eq_append_getElem hjG, sc_append, HJ.out.2.2.2.2.2, HP.out]
            exact hrow6
        · obtain rfl : j = m := by omega
          have hGl2 : G[k].length = j := by rw [HGk.out]; simpa using HMl.out
          have hrow2 : wr.ownsRow wo.heap.size 9 1 (.slice ca j cc) G[k].length (sc G[k]) := by
            have h1 : G[k].take j = G[k] := List.take_of_length_le (by omega)
            rw [h1] at hrow
            rw [hGl2]
            exact hrow
          have htx : TxR wr (.slice ca j cc) G[k] := txR_owns hrow2
          have hdn := doneR_set (doneR_chg HI.out.2.2.2.1 hch) hkv hkG (.slice ca j cc) htx (fun g o n c e => by injection e with e; have := (hrow.lt g (by rw [e]; rfl)).1; omega)
          have hnil2 : ∀ i (h : i < (vs.set k (.slice ca j cc)).length), k + 1 ≤ i → (vs.set k (.slice ca j cc))[i] = .slice none 0 0 := by
            intro i h hi
            rw [List.getElem_set_ne (by omega)]
            exact HI.out.2.2.1 i (by simpa using h) (by omega)
          have HF := Lib.hid (And.intro hblk (And.intro hnil2 (And.intro hdn (And.intro hbw (HAl.out (fun q hq => hgood q hq (by rw [HMl.out] at hq; omega)))))))
          have hvl2 : (vs.set k (Value.slice ca j cc)).length = n := by rw [List.length_set]; exact HI.out.1
          clear hblk hrow hrow2 htx hdn hnil2 hch hbw hgood hGl2
          go_wp2
          exact ⟨⟨k + 1, _, by omega, by go_num, hvl2, HF.out.1, HF.out.2.1, HF.out.2.2.1, HF.out.2.2.2.1, HF.out.2.2.2.2⟩, by simp [intOf]; omega⟩
    · obtain rfl : k = n := by omega
      have hgr : GrAt wo (.slice (some ⟨w.heap.size, 0, none⟩) k k) G := by
        refine ⟨_, _, by rw [HG.out.2], fun i hi => ?_⟩
        have hi2 : i < vs.length := by rw [hvl, ← HG.out.2]; exact hi
        refine ⟨w.heap.size, 0, vs[i], rfl, obj_lt hblk, ?_, (hdone i hi2 hi (by rw [← hvl]; exact hi2)).1⟩
        rw [Nat.zero_add]
        exact obj_cell hblk i _ (by simp [hi2])
      have H := Lib.hid (And.intro hgr (And.intro hb (HGood.out (fun i h1 h2 j hj => hall i h1 h2 j hj (by rw [← HL.out.2]; exact h1)))))
      clear hvl hblk hnil hdone hb hall hgr
      go_wp2
      go_ret2
      exact nmsPost_ok H.out.2.2 (by rw [HG.out.1]; exact H.out.1) H.out.2.1
end Go.Proofs.YtcfckgpjdaadeaaGreatDoor
namespace Go.Proofs.YtcfckgpjdaadeaaGreatDoor
set_option linter.unusedSimpArgs false
set_option linter.unusedVariables false
open Go Go.RowKit Go.Proofs.BerK Go.Proofs.MemK Go.Proofs.UtfK

theorem nmAt_form {w : World} {mv : Value} {N : List (List UInt8)} (h : NmAt w mv N) : ∃ q, mv = .map q := by
  rcases h with ⟨h, _⟩ | ⟨b, D, h, _⟩
  · exact ⟨_, h⟩
  · exact ⟨_, h⟩
def NmsV (N : List (List UInt8)) (w : World) (en : Ending) (w' : World) : Prop :=
  (¬ N.Nodup → en = .returned (.tuple #[.agg #[.map none], .bool false])) ∧ (N.Nodup → ∃ mv, en = .returned (.tuple #[.agg #[mv], .bool true]) ∧ NmAt w' mv N) ∧ Below w.heap.size w w'
theorem nmsV_bad {N : List (List UInt8)} {w w' : World} (h : ¬ N.Nodup) (hb : Below w.heap.size w w') : NmsV N w (.returned (.tuple #[.agg #[.map none], .bool false])) w' := ⟨fun _ => rfl, fun h2 => absurd h2 h, hb⟩
theorem nmsV_ok {N : List (List UInt8)} {w w' : World} {mv : Value} (h : N.Nodup) (hm : NmAt w' mv N) (hb : Below w.heap.size w w') : NmsV N w (.returned (.tuple #[.agg #[mv], .bool true])) w' := ⟨fun h2 => absurd h h2, fun _ => ⟨mv, rfl, hm⟩, hb⟩
/-- A table of names alone in its block. -/
def TbAt (w : World) (g B : Nat) (N : List (List UInt8)) : Prop := ∃ mv, w.heap[g]? = some (.cells #[mv] 71 (0, 0)) ∧ NmAt w mv N ∧ (∀ b, mv = .map (some b) → B ≤ b)
theorem tbAt_new (w : World) : TbAt (w.alloc (.cells #[.map none] 71)) w.heap.size w.heap.size [] := ⟨.map none, heap_alloc_new w _, nmAt_nil _, fun b h => by cases h⟩
theorem tbAt_below {w w' : World} {g B : Nat} {N : List (List UInt8)} (h : TbAt w g B N) (hb : Below w.heap.size w w') : TbAt w' g B N := by
  obtain ⟨mv, h1, h2, h3⟩ := h
  exact ⟨mv, obj_below h1 hb (obj_lt h1), nmAt_below h2 hb, h3⟩
def TbPost (g B : Nat) (N : List (List UInt8)) (s : List UInt8) (w : World) (en : Ending) (w' : World) : Prop :=
  (∀ i, ixL N s = some i → en = .returned (.bool false) ∧ w = w') ∧ (ixL N s = none → en = .returned (.bool true) ∧ TbAt w' g B (N ++ [s]) ∧ Below B w w')
theorem tbAdd_any (g B : Nat) (N : List (List UInt8)) (s : List UInt8) (w : World) (h : TbAt w g B N) (hB : B ≤ g) (hBw : B ≤ w.heap.size) (hN : N.length ≤ 1000000) (hs : s.length ≤ 140737488355328) :
    Calls Tryz.prog 73 #[.pointer (some ⟨g, 0, none⟩), .string ⟨s.toArray⟩] w (TbPost g B N s w) := by
  obtain ⟨mv, h1, h2, h3⟩ := h
  refine (add_any g 0 #[mv] _ mv N s w h1 rfl h2 hN hs).mono ?_
  rintro en w' ⟨ha, hb⟩
  refine ⟨ha, fun hq => ?_⟩
  obtain ⟨b, rfl, g8, nm8, hmb, ch8⟩ := hb hq
  refine ⟨rfl, ⟨.map (some b), g8, nm8, fun b' e => ?_⟩, ch8.toBelow hBw (fun k _ hk => ?_)⟩
  · injection e with e; injection e with e; subst e
    rcases hmb with e | ⟨_, e⟩
    · exact h3 _ e
    · omega
  · rcases hk with hk | hk
    · omega
    · exact h3 _ hk
set_option maxHeartbeats 1600000 in
set_option maxRecDepth 100000 in
theorem namesOf_any (TL : List Ty) (tv : Value) (w : World) (hT : TyAt w tv TL) (hl : TL.length ≤ 1000000) (hs : ∀ t ∈ TL, t.1.length ≤ 140737488355328) :
    Calls Tryz.prog 46 #[tv] w (NmsV (TL.map (·.1)) w) := by
  obtain ⟨ta, tc, rfl, htc⟩ := hT
  have HT := Lib.hid htc
  have HS := Lib.hid hs
  obtain ⟨n, hn⟩ : ∃ n, TL.length = n := ⟨_, rfl⟩
  have HL := Lib.hid hn
  obtain ⟨N, hN⟩ : ∃ N, TL.map (·.1) = N := ⟨_, rfl⟩
  have HN := Lib.hid hN
  have hNl : N.length = n := by rw [← hN]; simpa using hn
  have HNl := Lib.hid hNl
  rw [hN]
  rw [hn] at hl ⊢
  have hb1 : Below w.heap.size w ((w.alloc (.cells #[.map none] 71)).alloc (.cells #[.map none] 71)) := ((Below.refl _ w).alloc (Nat.le_refl _) _).alloc (by simp) _
  have x0 : ((w.alloc (.cells #[.map none] 71)).alloc (.cells #[.map none] 71)).heap[w.heap.size]? = some (.cells #[.map none] 71 (0, 0)) := obj_alloc (heap_alloc_new w _) _
  have tb0 := tbAt_new (w.alloc (.cells #[.map none] 71))
  rw [World.size_alloc] at tb0
  have hs1 : ((w.alloc (.cells #[.map none] 71)).alloc (.cells #[.map none] 71)).heap.size = w.heap.size + 2 := by simp
  obtain ⟨W1, hW1⟩ : ∃ W1, (w.alloc (.cells #[.map none] 71)).alloc (.cells #[.map none] 71) = W1 := ⟨_, rfl⟩
  rw [hW1] at hb1 x0 tb0 hs1
  have HX := Lib.hid (And.intro hb1 (And.intro x0 tb0))
  have HW1 := Lib.hid hW1
  clear htc hs hn hN hNl hW1 hb1 x0 tb0
  go_enter Tryz.func46, Tryz.ntmps46
  go_wp2
  rw [HW1.out]
  go_loopw [9] (fun v wr => ∃ k : Nat, k ≤ n ∧ v = .int .i64 (k : Nat) ∧ TbAt wr (w.heap.size + 1) (w.heap.size + 1) (N.take k) ∧ (N.take k).Nodup ∧ Below (w.heap.size + 1) W1 wr) (fun v _ => n - (intOf v).toNat)
  case atStart => exact ⟨0, by omega, rfl, HX.out.2.2, by simp, Below.refl _ _⟩
  case round =>
    obtain ⟨k, hk, rfl, htb, hnd, hb⟩ := hrel
    have hsr := hb.size
    have hbw : Below w.heap.size w wr := HX.out.1.trans (hb.mono (by omega))
    have x0 := obj_below HX.out.2.1 hb (by omega)
    by_cases hlt : k < n
    · have hkl : (k : Int) < (n : Int) := by omega
      have hkm : k < TL.length := by rw [HL.out]; exact hlt
      obtain ⟨g1, o1, rfl, hg1, e0w, e1w, e2w⟩ := HT.out k hkm
      have e0 := (hbw.cell (p := ⟨g1, _, none⟩) hg1).trans e0w
      have e1 := (hbw.cell (p := ⟨g1, _, none⟩) hg1).trans e1w
      have e2 := (hbw.cell (p := ⟨g1, _, none⟩) hg1).trans e2w
      have hsk := HS.out _ (List.getElem_mem hkm)
      have hkN : k < N.length := by rw [HNl.out]; exact hlt
      have hNk : N[k] = TL[k].1 := by
        have := HN.out
        subst this
        simp
      obtain ⟨nm, hnm⟩ : ∃ x, TL[k].1 = x := ⟨_, rfl⟩
      obtain ⟨rl, hrl⟩ : ∃ x, TL[k].2.1 = x := ⟨_, rfl⟩
      obtain ⟨sg, hsg⟩ : ∃ x, TL[k].2.2 = x := ⟨_, rfl⟩
      rw [hnm] at e0 hsk hNk
      rw [hrl] at e1
      rw [hsg] at e2
      have hts : N.take (k + 1) = N.take k ++ [nm] := by rw [List.take_succ_eq_append_getElem hkN, hNk]
      obtain ⟨W2, hW2⟩ : ∃ W2, wr.alloc (.cells #[.string ⟨nm.toArray⟩, .int .i64 rl, .bool sg] 35) = W2 := ⟨_, rfl⟩
      have hb2 : Below wr.heap.size wr W2 := by rw [← hW2]; exact (Below.refl _ wr).alloc (Nat.le_refl _) _
      have y2 : W2.heap[wr.heap.size]? = some (.cells #[.string ⟨nm.toArray⟩, .int .i64 rl, .bool sg] 35 (0, 0)) := by rw [← hW2]; exact heap_alloc_new wr _
      have HC := Lib.hid (tbAdd_any (w.heap.size + 1) (w.heap.size + 1) (N.take k) nm W2 (tbAt_below htb hb2) (Nat.le_refl _) (by have := hb2.size; omega) (by simp; omega) hsk)
      obtain ⟨i0, i1, i2⟩ := obj3 y2
      have HI := Lib.hid (And.intro hnd (And.intro (hb.trans (hb2.mono (by omega))) (And.intro hts (And.intro hNk hkN))))
      have HW2 := Lib.hid hW2
      have HX2 := Lib.hid (And.intro (obj_below x0 hb2 (obj_lt x0)) (hbw.trans (hb2.mono hbw.size)))
      clear htb hnd hb hbw x0 e0w e1w e2w hsk hNk hnm hrl hsg hts hW2 hb2 y2
      go_wp2_with fail
      rw [HW2.out]
      refine HC.out.mono ?_
      rintro en w5 ⟨hhit, hnew⟩
      have HA := Lib.hid (And.intro hhit hnew)
      clear hhit hnew
      cases hq : ixL (N.take k) nm with
      | some i =>
        obtain ⟨rfl, rfl⟩ := HA.out.1 i hq
        have HQ := Lib.hid (nodup_take_not HI.out.2.2.2.2 HI.out.2.2.2.1 hq)
        clear hq
        have r0 := obj_cell HX2.out.1 0 _ rfl
        have f0 := obj_free HX2.out.1 0
        go_wp2
        have s0 := obj_cell (obj_set HX2.out.1 0 (.map none)) 0 (.map none) rfl
        refine bodyPost_ret (v := .tuple #[.agg #[.map none], .bool false]) (by simp [results, Tryz.results46, go_sem, *]) rfl ?_
        exact nmsV_bad HQ.out (HX2.out.2.setCell (p := ⟨w.heap.size, 0, none⟩) (Nat.le_refl _) _)
      | none =>
        obtain ⟨rfl, htb5, hb5⟩ := HA.out.2 hq
        have HE := Lib.hid (And.intro htb5 (And.intro (nodup_snoc HI.out.1 hq) (HI.out.2.1.trans hb5)))
        clear hq htb5 hb5 i0 i1 i2
        go_wp2
        refine ⟨⟨k + 1, by omega, by go_num, ?_, ?_, HE.out.2.2⟩, by simp [intOf]; omega⟩
        · rw [HI.out.2.2.1]; exact HE.out.1
        · rw [HI.out.2.2.1]; exact HE.out.2.1
    · obtain rfl : k = n := by omega
      have hNt : N.take k = N := List.take_of_length_le (by rw [HNl.out]; exact Nat.le_refl _)
      rw [hNt] at htb hnd
      obtain ⟨mv, h1, h2, h3⟩ := htb
      obtain ⟨q, rfl⟩ := nmAt_form h2
      have r1 := obj_cell h1 0 _ rfl
      have r0 := obj_cell x0 0 _ rfl
      have f0 := obj_free x0 0
      have H := Lib.hid (And.intro hnd (And.intro (nmAt_chg h2 ((Chg.refl (fun i => i = w.heap.size) wr).setCell (p := ⟨w.heap.size, 0, none⟩) (fun _ => rfl) (.map q)) (fun b hb e => by have := h3 b hb; have e : b = w.heap.size := e; omega)) (And.intro (hbw.setCell (p := ⟨w.heap.size, 0, none⟩) (Nat.le_refl _) (.map q)) (obj_cell (obj_set x0 0 (.map q)) 0 (.map q) rfl))))
      clear hnd hb hbw x0 h1 h2 h3 hNt
      go_wp2
      have s0 := H.out.2.2.2
      refine bodyPost_ret (v := .tuple #[.agg #[.map q], .bool true]) (by simp [results, Tryz.results46, go_sem, *]) rfl ?_
      exact nmsV_ok H.out.1 H.out.2.1 H.out.2.2.1
end Go.Proofs.YtcfckgpjdaadeaaGreatDoor
namespace Go.Proofs.YtcfckgpjdaadeaaGreatDoor
set_option linter.unusedSimpArgs false
set_option linter.unusedVariables false
open Go Go.RowKit Go.Proofs.BerK Go.Proofs.MemK Go.Proofs.UtfK

def dupL (l : List (List UInt8)) : Bool := !decide l.Nodup
theorem dup_yes {l : List (List UInt8)} (h : ¬ l.Nodup) : dupL l = true := by unfold dupL; rw [decide_eq_false h]; rfl
theorem dup_no {l : List (List UInt8)} (h : l.Nodup) : dupL l = false := by unfold dupL; rw [decide_eq_true h]; rfl
/-- What the predicate of hasTwice leaves. -/
def TwPost (g : Nat) (N : List (List UInt8)) (s : List UInt8) (w : World) (en : Ending) (w' : World) : Prop :=
  (∀ i, ixL N s = some i → en = .returned (.bool true) ∧ w = w') ∧ (ixL N s = none → en = .returned (.bool false) ∧ TbAt w' g g (N ++ [s]) ∧ Below g w w')
set_option maxHeartbeats 400000 in
set_option maxRecDepth 100000 in
theorem tw1_any (g : Nat) (N : List (List UInt8)) (s : List UInt8) (w : World) (h : TbAt w g g N) (hB : g ≤ w.heap.size) (hN : N.length ≤ 1000000) (hs : s.length ≤ 140737488355328) :
    Calls Tryz.prog 76 #[.string ⟨s.toArray⟩, .pointer (some ⟨g, 0, none⟩)] w (TwPost g N s w) := by
  have HC := Lib.hid (tbAdd_any g g N s w h (Nat.le_refl _) hB hN hs)
  clear h
  go_enter Tryz.func76, Tryz.ntmps76
  go_wp2_with fail
  refine HC.out.mono ?_
  rintro en w5 ⟨hhit, hnew⟩
  have HA := Lib.hid (And.intro hhit hnew)
  clear hhit hnew
  cases hq : ixL N s with
  | some i =>
    obtain ⟨rfl, rfl⟩ := HA.out.1 i hq
    have HQ := Lib.hid hq
    clear hq
    go_wp2
    go_ret
    exact ⟨fun _ _ => ⟨rfl, rfl⟩, (fun h => by rw [HQ.out] at h; cases h)⟩
  | none =>
    obtain ⟨rfl, htb5, hb5⟩ := HA.out.2 hq
    have HQ := Lib.hid (And.intro hq (And.intro htb5 hb5))
    clear hq htb5 hb5
    go_wp2
    go_ret
    exact ⟨(fun i h => by rw [HQ.out.1] at h; cases h), fun _ => ⟨rfl, HQ.out.2.1, HQ.out.2.2⟩⟩
def IxB (b : Bool) (g : Nat) (w : World) (en : Ending) (w' : World) : Prop := ∃ n : Int, en = .returned (.int .i64 n) ∧ decide (0 ≤ n) = b ∧ Below g w w'
set_option maxHeartbeats 1600000 in
set_option maxRecDepth 100000 in
theorem twi_any (l : List (List UInt8)) (v : Value) (g : Nat) (w0 w : World) (ht : TxR w0 v l) (hb0 : Below g w0 w) (hg0 : w0.heap.size ≤ g) (h : TbAt w g g []) (hl : l.length ≤ 1000000) (hs : ∀ s ∈ l, s.length ≤ 140737488355328) :
    Calls Tryz.prog 107 #[v, .func (.func 76) #[] #[.pointer (some ⟨g, 0, none⟩)]] w (IxB (dupL l) g w) := by
  obtain ⟨a, c, rfl, hcells⟩ := ht
  have HM := Lib.hid hcells
  have HS := Lib.hid hs
  have HB0 := Lib.hid hb0
  have HT := Lib.hid h
  obtain ⟨n, hn⟩ : ∃ n, l.length = n := ⟨_, rfl⟩
  have HL := Lib.hid hn
  rw [hn] at hl ⊢
  have hgw : g < w.heap.size := by obtain ⟨mv, h1, _⟩ := h; exact obj_lt h1
  clear hcells hn hs h hb0
  go_enter Tryz.func107, Tryz.ntmps107
  go_wp2
  go_loopw [8] (fun v wr => ∃ k : Nat, k ≤ n ∧ v = .int .i64 (k : Nat) ∧ TbAt wr g g (l.take k) ∧ (l.take k).Nodup ∧ Below g w wr) (fun v _ => n - (intOf v).toNat)
  case atStart => exact ⟨0, by omega, rfl, HT.out, by simp, Below.refl _ _⟩
  case round =>
    obtain ⟨k, hk, rfl, htb, hnd, hb⟩ := hrel
    have hsr := hb.size
    by_cases hlt : k < n
    · have hkl : (k : Int) < (n : Int) := by omega
      have hkm : k < l.length := by rw [HL.out]; exact hlt
      obtain ⟨g1, o1, rfl, hg1, e0w⟩ := HM.out k hkm
      have e0 := ((HB0.out.trans hb).cell (p := ⟨g1, _, none⟩) (by show g1 < g; omega)).trans e0w
      have hsk := HS.out _ (List.getElem_mem hkm)
      obtain ⟨s, hsk2⟩ : ∃ x, l[k] = x := ⟨_, rfl⟩
      rw [hsk2] at e0 hsk
      have hts : l.take (k + 1) = l.take k ++ [s] := by rw [List.take_succ_eq_append_getElem hkm, hsk2]
      have HC := Lib.hid (tw1_any g (l.take k) s wr htb (by omega) (by simp; omega) hsk)
      have HI := Lib.hid (And.intro hnd (And.intro hb (And.intro hts (And.intro hsk2 hkm))))
      clear htb hnd hb e0w hsk hts hsk2
      go_wp2_with fail
      refine HC.out.mono ?_
      rintro en w5 ⟨hhit, hnew⟩
      have HA := Lib.hid (And.intro hhit hnew)
      clear hhit hnew
      cases hq : ixL (l.take k) s with
      | some i =>
        obtain ⟨rfl, rfl⟩ := HA.out.1 i hq
        have HQ := Lib.hid (dup_yes (nodup_take_not HI.out.2.2.2.2 HI.out.2.2.2.1 hq))
        clear hq e0
        go_wp2
        go_ret
        exact ⟨_, rfl, by rw [HQ.out]; simp, HI.out.2.1⟩
      | none =>
        obtain ⟨rfl, htb5, hb5⟩ := HA.out.2 hq
        have HE := Lib.hid (And.intro htb5 (And.intro (nodup_snoc HI.out.1 hq) (HI.out.2.1.trans hb5)))
        clear hq htb5 hb5 e0
        go_wp2
        refine ⟨⟨k + 1, by omega, by go_num, ?_, ?_, HE.out.2.2⟩, by simp [intOf]; omega⟩
        · rw [HI.out.2.2.1]; exact HE.out.1
        · rw [HI.out.2.2.1]; exact HE.out.2.1
    · obtain rfl : k = n := by omega
      have hNt : l.take k = l := List.take_of_length_le (by rw [HL.out]; exact Nat.le_refl _)
      rw [hNt] at hnd
      have H := Lib.hid (And.intro (dup_no hnd) hb)
      clear htb hnd hb hNt
      go_wp2
      go_ret
      exact ⟨_, rfl, by rw [H.out.1]; rfl, H.out.2⟩
set_option maxHeartbeats 1600000 in
set_option maxRecDepth 100000 in
theorem hasTwice_any (l : List (List UInt8)) (v : Value) (w : World) (ht : TxR w v l) (hl : l.length ≤ 1000000) (hs : ∀ s ∈ l, s.length ≤ 140737488355328) :
    Calls Tryz.prog 48 #[v] w (BB (dupL l) w) := by
  have hb0 : Below w.heap.size w (w.alloc (.cells #[.map none] 71)) := (Below.refl _ w).alloc (Nat.le_refl _) _
  have HC := Lib.hid (twi_any l v w.heap.size w _ ht hb0 (Nat.le_refl _) (tbAt_new w) hl hs)
  have HB := Lib.hid hb0
  obtain ⟨a, c, rfl, _⟩ := ht
  obtain ⟨R, hR⟩ : ∃ R, dupL l = R := ⟨_, rfl⟩
  rw [hR] at HC ⊢
  clear hs hb0 hR
  go_enter Tryz.func48, Tryz.ntmps48
  go_wp2_with fail
  go_in
  go_wp2_with fail
  refine HC.out.mono ?_
  rintro en w1 ⟨n, rfl, hn, hb⟩
  have H := Lib.hid (And.intro hn (HB.out.trans hb))
  clear hn hb
  go_wp2
  go_ret
  exact bB_mk H.out.1.symm H.out.2
set_option maxHeartbeats 1600000 in
set_option maxRecDepth 100000 in
theorem cnGi_any (T : List (List (List UInt8))) (tv : Value) (w : World) (h : GrAt w tv T) (hl : T.length ≤ 1000000) (hl2 : ∀ l ∈ T, l.length ≤ 1000000 ∧ ∀ s ∈ l, s.length ≤ 140737488355328) :
    Calls Tryz.prog 74 #[tv, .func (.func 48) #[] #[]] w (IxPost (T.any dupL) w) := by
  obtain ⟨a, c, rfl, hcells⟩ := h
  have HM := Lib.hid hcells
  have HS := Lib.hid hl2
  obtain ⟨n, hn⟩ : ∃ n, T.length = n := ⟨_, rfl⟩
  have HL := Lib.hid hn
  have HY := Lib.hid (any_at (l := T) (q := dupL))
  have HN := Lib.hid (any_no (l := T) (q := dupL))
  obtain ⟨R, hR⟩ : ∃ R, T.any dupL = R := ⟨_, rfl⟩
  rw [hR] at HY HN ⊢
  rw [hn] at hl ⊢
  clear hcells hn hR hl2
  go_enter Tryz.func74, Tryz.ntmps74
  go_wp2
  go_loopw [8] (fun v wr => ∃ k : Nat, k ≤ n ∧ v = .int .i64 (k : Nat) ∧ Below w.heap.size w wr ∧ ∀ j (hj : j < T.length), j < k → dupL T[j] = false) (fun v _ => n - (intOf v).toNat)
  case atStart => exact ⟨0, by omega, rfl, Below.refl _ _, fun j _ h => by omega⟩
  case round =>
    obtain ⟨k, hk, rfl, hb, hall⟩ := hrel
    have hsr := hb.size
    by_cases hlt : k < n
    · have hkl : (k : Int) < (n : Int) := by omega
      have hkm : k < T.length := by rw [HL.out]; exact hlt
      obtain ⟨g, o, vl, rfl, hg, e0w, tx⟩ := HM.out k hkm
      have e0 := (hb.cell (p := ⟨g, _, none⟩) hg).trans e0w
      have hsk := HS.out _ (List.getElem_mem hkm)
      have HF := Lib.hid (hasTwice_any T[k] vl wr (txR_below tx hb) hsk.1 hsk.2)
      obtain ⟨va, vc, rfl, _⟩ := tx
      obtain ⟨bq, hbq⟩ : ∃ b, dupL T[k] = b := ⟨_, rfl⟩
      have HYk := Lib.hid (fun hx => HY.out k hkm (by rw [hbq]; exact hx))
      have HA := Lib.hid (fun (hx : bq = false) j (hj : j < T.length) (hjk : j < k + 1) => (show dupL T[j] = false by
        by_cases hjj : j = k
        · subst hjj; rw [hbq]; exact hx
        · exact hall j hj (by omega)))
      rw [hbq] at HF
      obtain ⟨m, hm⟩ : ∃ m, T[k].length = m := ⟨_, rfl⟩
      rw [hm] at e0 HF
      have HB := Lib.hid hb
      clear hb hall e0w hbq hsk hm
      go_wp2_with fail
      refine HF.out.mono ?_
      rintro en w5 ⟨rfl, hb5⟩
      have HB5 := Lib.hid (HB.out.trans (hb5.mono hsr))
      clear hb5 e0
      cases bq
      · have H := Lib.hid (HA.out rfl)
        go_wp2
        exact ⟨⟨k + 1, by omega, by go_num, HB5.out, H.out⟩, by simp [intOf]; omega⟩
      · have H := Lib.hid (HYk.out rfl)
        go_wp2
        go_ret
        exact ⟨_, rfl, by rw [H.out]; simp, HB5.out⟩
    · obtain rfl : k = n := by omega
      have H := Lib.hid (HN.out (fun j hj => hall j hj (by rw [← HL.out]; exact hj)))
      have HB := Lib.hid hb
      clear hb hall
      go_wp2
      go_ret
      exact ⟨_, rfl, by rw [H.out]; rfl, HB.out⟩
set_option maxHeartbeats 400000 in
theorem cnG_any (T : List (List (List UInt8))) (tv : Value) (w : World) (h : GrAt w tv T) (hl : T.length ≤ 1000000) (hl2 : ∀ l ∈ T, l.length ≤ 1000000 ∧ ∀ s ∈ l, s.length ≤ 140737488355328) :
    Calls Tryz.prog 47 #[tv, .func (.func 48) #[] #[]] w (BB (T.any dupL) w) := by
  have HC := Lib.hid (cnGi_any T tv w h hl hl2)
  obtain ⟨a, c, rfl, _⟩ := h
  obtain ⟨R, hR⟩ : ∃ R, T.any dupL = R := ⟨_, rfl⟩
  rw [hR] at HC ⊢
  clear hR hl2
  go_enter Tryz.func47, Tryz.ntmps47
  go_wp2_with fail
  refine HC.out.mono ?_
  rintro en w1 ⟨n, rfl, hn, hb⟩
  have H := Lib.hid hn
  clear hn
  go_wp2
  go_ret
  exact bB_mk H.out.symm hb
/-! ### attributes without values -/
set_option maxHeartbeats 1600000 in
set_option maxRecDepth 100000 in
theorem cnAi_any (T : List Atr) (tv : Value) (w : World) (h : AtAt w tv T) (hl : T.length ≤ 1000000) :
    Calls Tryz.prog 71 #[tv, .func (.func 44) #[] #[]] w (IxPost (T.any fun a => a.2.length == 0) w) := by
  obtain ⟨a, c, rfl, hcells⟩ := h
  have HM := Lib.hid hcells
  obtain ⟨n, hn⟩ : ∃ n, T.length = n := ⟨_, rfl⟩
  have HL := Lib.hid hn
  have HY := Lib.hid (any_at (l := T) (q := fun a => a.2.length == 0))
  have HN := Lib.hid (any_no (l := T) (q := fun a => a.2.length == 0))
  obtain ⟨R, hR⟩ : ∃ R, (T.any fun a => a.2.length == 0) = R := ⟨_, rfl⟩
  rw [hR] at HY HN ⊢
  rw [hn] at hl ⊢
  clear hcells hn hR
  go_enter Tryz.func71, Tryz.ntmps71
  go_wp2
  go_loopw [8] (fun v wr => ∃ k : Nat, k ≤ n ∧ v = .int .i64 (k : Nat) ∧ Below w.heap.size w wr ∧ ∀ j (hj : j < T.length), j < k → (T[j].2.length == 0) = false) (fun v _ => n - (intOf v).toNat)
  case atStart => exact ⟨0, by omega, rfl, Below.refl _ _, fun j _ h => by omega⟩
  case round =>
    obtain ⟨k, hk, rfl, hb, hall⟩ := hrel
    have hsr := hb.size
    by_cases hlt : k < n
    · have hkl : (k : Int) < (n : Int) := by omega
      have hkm : k < T.length := by rw [HL.out]; exact hlt
      obtain ⟨g, o, vl, rfl, hg, e0w, e1w, tx⟩ := HM.out k hkm
      have e0 := (hb.cell (p := ⟨g, _, none⟩) hg).trans e0w
      have e1 := (hb.cell (p := ⟨g, _, none⟩) hg).trans e1w
      obtain ⟨va, vc, rfl, _⟩ := tx
      obtain ⟨bq, hbq⟩ : ∃ b, (T[k].2.length == 0) = b := ⟨_, rfl⟩
      have HYk := Lib.hid (fun hx => HY.out k hkm (by rw [hbq]; exact hx))
      have HA := Lib.hid (fun (hx : bq = false) j (hj : j < T.length) (hjk : j < k + 1) => (show (T[j].2.length == 0) = false by
        by_cases hjj : j = k
        · subst hjj; rw [hbq]; exact hx
        · exact hall j hj (by omega)))
      obtain ⟨nm, hnm⟩ : ∃ x, T[k].1 = x := ⟨_, rfl⟩
      obtain ⟨m, hm⟩ : ∃ m, T[k].2.length = m := ⟨_, rfl⟩
      rw [hnm] at e0
      rw [hm] at e1 hbq
      have hF := snp4_any ⟨nm.toArray⟩ va m vc wr
      rw [hbq] at hF
      have HF := Lib.hid hF
      have HB := Lib.hid hb
      clear hb hall e0w e1w hbq hm hF hnm
      go_wp2_with fail
      refine HF.out.mono ?_
      rintro en w5 ⟨rfl, hb5⟩
      have HB5 := Lib.hid (HB.out.trans (hb5.mono hsr))
      clear hb5 e0 e1
      cases bq
      · have H := Lib.hid (HA.out rfl)
        go_wp2
        exact ⟨⟨k + 1, by omega, by go_num, HB5.out, H.out⟩, by simp [intOf]; omega⟩
      · have H := Lib.hid (HYk.out rfl)
        go_wp2
        go_ret
        exact ⟨_, rfl, by rw [H.out]; simp, HB5.out⟩
    · obtain rfl : k = n := by omega
      have H := Lib.hid (HN.out (fun j hj => hall j hj (by rw [← HL.out]; exact hj)))
      have HB := Lib.hid hb
      clear hb hall
      go_wp2
      go_ret
      exact ⟨_, rfl, by rw [H.out]; rfl, HB.out⟩
set_option maxHeartbeats 400000 in
theorem cnA_any (T : List Atr) (tv : Value) (w : World) (h : AtAt w tv T) (hl : T.length ≤ 1000000) :
    Calls Tryz.prog 43 #[tv, .func (.func 44) #[] #[]] w (BB (T.any fun a => a.2.length == 0) w) := by
  have HC := Lib.hid (cnAi_any T tv w h hl)
  obtain ⟨a, c, rfl, _⟩ := h
  obtain ⟨R, hR⟩ : ∃ R, (T.any fun a => a.2.length == 0) = R := ⟨_, rfl⟩
  rw [hR] at HC ⊢
  clear hR
  go_enter Tryz.func43, Tryz.ntmps43
  go_wp2_with fail
  refine HC.out.mono ?_
  rintro en w1 ⟨n, rfl, hn, hb⟩
  have H := Lib.hid hn
  clear hn
  go_wp2
  go_ret
  exact bB_mk H.out.symm hb
/-! ### too many values -/
def tmB (TL : List Ty) (G : List (List (List UInt8))) : Bool := (List.zipWith (fun t g => t.2.2 && decide (1 < g.length)) TL G).any id
theorem tm_at {TL : List Ty} {G : List (List (List UInt8))} (k : Nat) (h1 : k < TL.length) (h2 : k < G.length) (h : (TL[k].2.2 && decide (1 < G[k].length)) = true) : tmB TL G = true := by
  unfold tmB
  rw [List.any_eq_true]
  exact ⟨_, List.mem_iff_getElem.2 ⟨k, by simp; omega, rfl⟩, by simpa using h⟩
theorem tm_no {TL : List Ty} {G : List (List (List UInt8))} (h : ∀ k (h1 : k < TL.length) (h2 : k < G.length), (TL[k].2.2 && decide (1 < G[k].length)) = false) : tmB TL G = false := by
  unfold tmB
  rw [List.any_eq_false]
  intro x hx
  obtain ⟨k, hk, rfl⟩ := List.getElem_of_mem hx
  have := h k (by simp at hk; omega) (by simp at hk; omega)
  simp only [List.getElem_zipWith, id]
  rw [this]; simp
set_option maxHeartbeats 1600000 in
set_option maxRecDepth 100000 in
theorem tooMany_any (TL : List Ty) (G : List (List (List UInt8))) (tv gv : Value) (w : World) (hT : TyAt w tv TL) (hG : GrAt w gv G) (hl2 : TL.length = G.length) (hl : G.length ≤ 1000000) :
    Calls Tryz.prog 49 #[tv, gv] w (BB (tmB TL G) w) := by
  obtain ⟨ta, tc, rfl, htc⟩ := hT
  obtain ⟨a, c, rfl, hcells⟩ := hG
  have HT := Lib.hid htc
  have HM := Lib.hid hcells
  have HY := Lib.hid (tm_at (TL := TL) (G := G))
  have HN := Lib.hid (tm_no (TL := TL) (G := G))
  obtain ⟨R, hR⟩ : ∃ R, tmB TL G = R := ⟨_, rfl⟩
  rw [hR] at HY HN ⊢
  obtain ⟨n, hn⟩ : ∃ n, G.length = n := ⟨_, rfl⟩
  have hnT : TL.length = n := hl2.trans hn
  have HL := Lib.hid (And.intro hn hnT)
  rw [hn] at hl ⊢
  rw [hnT]
  clear htc hcells hn hnT hR hl2
  go_enter Tryz.func49, Tryz.ntmps49
  go_wp2
  go_loopw [9] (fun v wr => ∃ k : Nat, k ≤ n ∧ v = .int .i64 (k : Nat) ∧ Below w.heap.size w wr ∧ ∀ j (h1 : j < TL.length) (h2 : j < G.length), j < k → (TL[j].2.2 && decide (1 < G[j].length)) = false) (fun v _ => n - (intOf v).toNat)
  case atStart => exact ⟨0, by omega, rfl, Below.refl _ _, fun j _ _ h => by omega⟩
  case round =>
    obtain ⟨k, hk, rfl, hb, hall⟩ := hrel
    have hsr := hb.size
    by_cases hlt : k < n
    · have hkl : (k : Int) < (n : Int) := by omega
      have hkm : k < G.length := by rw [HL.out.1]; exact hlt
      have hkT : k < TL.length := by rw [HL.out.2]; exact hlt
      obtain ⟨g, o, vl, rfl, hg, e0w, tx⟩ := HM.out k hkm
      obtain ⟨g2, o2, rfl, hg2, t0w, t1w, t2w⟩ := HT.out k hkT
      have e0 := (hb.cell (p := ⟨g, _, none⟩) hg).trans e0w
      have t0 := (hb.cell (p := ⟨g2, _, none⟩) hg2).trans t0w
      have t1 := (hb.cell (p := ⟨g2, _, none⟩) hg2).trans t1w
      have t2 := (hb.cell (p := ⟨g2, _, none⟩) hg2).trans t2w
      obtain ⟨va, vc, rfl, _⟩ := tx
      obtain ⟨bq, hbq⟩ : ∃ b, (TL[k].2.2 && decide (1 < G[k].length)) = b := ⟨_, rfl⟩
      have HYk := Lib.hid (fun hx => HY.out k hkT hkm (by rw [hbq]; exact hx))
      have HA := Lib.hid (fun (hx : bq = false) j (h1 : j < TL.length) (h2 : j < G.length) (hjk : j < k + 1) => (show (TL[j].2.2 && decide (1 < G[j].length)) = false by
        by_cases hjj : j = k
        · subst hjj; rw [hbq]; exact hx
        · exact hall j h1 h2 (by omega)))
      obtain ⟨nm, hnm⟩ : ∃ x, TL[k].1 = x := ⟨_, rfl⟩
      obtain ⟨rl, hrl⟩ : ∃ x, TL[k].2.1 = x := ⟨_, rfl⟩
      obtain ⟨sg, hsg⟩ : ∃ x, TL[k].2.2 = x := ⟨_, rfl⟩
      obtain ⟨m, hm⟩ : ∃ m, G[k].length = m := ⟨_, rfl⟩
      rw [hnm] at t0
      rw [hrl] at t1
      rw [hsg] at t2 hbq
      rw [hm] at e0 hbq
      have HB := Lib.hid (And.intro hb (hb.alloc hsr (.cells #[.string ⟨nm.toArray⟩, .int .i64 rl, .bool sg] 35)))
      have a0 := (((Below.refl _ wr).alloc (Nat.le_refl _) (.cells #[.string ⟨nm.toArray⟩, .int .i64 rl, .bool sg] 35)).cell (p := ⟨g, o + k, none⟩) (Nat.lt_of_lt_of_le hg hsr)).trans e0
      cases sg
      · have H := Lib.hid (HA.out (by rw [← hbq]; rfl))
        clear hb hall e0w t0w t1w t2w hbq hnm hrl hsg hm
        go_wp2
        exact ⟨⟨k + 1, by omega, by go_num, HB.out.2, H.out⟩, by simp [intOf]; omega⟩
      · by_cases h1m : 1 < m
        · have H := Lib.hid (HYk.out (by rw [← hbq]; simp [h1m]))
          have h1i : (1 : Int) < (m : Int) := by omega
          clear hb hall e0w t0w t1w t2w hbq hnm hrl hsg hm
          go_wp2
          go_ret
          exact bB_mk H.out HB.out.2
        · have H := Lib.hid (HA.out (by rw [← hbq]; simp [h1m]))
          have h1i : (m : Int) ≤ 1 := by omega
          clear hb hall e0w t0w t1w t2w hbq hnm hrl hsg hm
          go_wp2
          exact ⟨⟨k + 1, by omega, by go_num, HB.out.2, H.out⟩, by simp [intOf]; omega⟩
    · obtain rfl : k = n := by omega
      have H := Lib.hid (HN.out (fun j h1 h2 => hall j h1 h2 (by rw [← HL.out.1]; exact h2)))
      have HB := Lib.hid hb
      clear hb hall
      go_wp2
      go_ret
      exact bB_mk H.out HB.out
end Go.Proofs.YtcfckgpjdaadeaaGreatDoor
