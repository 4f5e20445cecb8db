/- The code's norms: the values of attributes as they count. The code's namesOf and hasTwice: the places of types' names; whether two values are the same. The code's hasTwice, hasTooMany, and whether an attribute has no values. The code's of: the classes that values name. The code's slices.Contains of truths; fits, plainly. The code's fits: whether attributes are such as the classes that they name have. The code's Check: whether an entry may be. -/
import Derived.Test.YtbmnpjkcomcboaaGreatDoorSnAL
import Derived.Test.YtbmnpjkcomcboaaGreatDoorRuAD
import Derived.Test.YtbmnpjkcomcboaaGreatDoorScAD
namespace Go.Proofs.YtbmnpjkcomcboaaGreatDoor
set_option linter.unusedSimpArgs false
set_option linter.unusedVariables false
open Go Go.RowKit Go.Proofs.BerK Go.Proofs.MemK Go.Proofs.UtfK

def GrAt (w : World) (v : Value) (G : List (List (List UInt8))) : Prop :=
  ∃ a c, v = .slice a G.length c ∧ ∀ i (hi : i < G.length), ∃ g o vl, a = some ⟨g, o, none⟩ ∧ g < w.heap.size ∧ w.cell? ⟨g, o + i, none⟩ = some vl ∧ TxR w vl G[i]
theorem grAt_below {w w' : World} {v : Value} {G : List (List (List UInt8))} (h : GrAt w v G) (hb : Below w.heap.size w w') : GrAt w' v G := by
  obtain ⟨a, c, rfl, h⟩ := h
  refine ⟨a, c, rfl, fun i hi => ?_⟩
  obtain ⟨g, o, vl, h1, h2, h3, h4⟩ := h i hi
  exact ⟨g, o, vl, h1, Nat.lt_of_lt_of_le h2 hb.size, (hb.cell (p := ⟨g, _, none⟩) h2).trans h3, txR_below h4 hb⟩
theorem txR_chg {S : Nat → Prop} {w w' : World} {v : Value} {l : List (List UInt8)} (h : TxR w v l) (hc : Chg S w w') (hs : ∀ g o n c, v = .slice (some ⟨g, o, none⟩) n c → ¬ S g) : TxR w' v l := by
  obtain ⟨a, c, rfl, h⟩ := h
  refine ⟨a, c, rfl, fun i hi => ?_⟩
  obtain ⟨g, o, rfl, h2, h3⟩ := h i hi
  exact ⟨g, o, rfl, Nat.lt_of_lt_of_le h2 hc.size, (World.cell?_of_block (w := w) (a := ⟨g, o + i, none⟩) (hc.block g h2 (hs g o _ _ rfl))).trans h3⟩
def nmV (t : Ty) (a : Atr) : List (List UInt8) := a.2.map fun s => (ruN t.2.1 s).1
def nmG (TL : List Ty) (A : List Atr) : List (List (List UInt8)) := List.zipWith nmV TL A
def nmOk (TL : List Ty) (A : List Atr) : Bool := (List.zipWith (fun t a => a.2.all fun s => (ruN t.2.1 s).2) TL A).all id
theorem nmOk_bad {TL : List Ty} {A : List Atr} (k : Nat) (h1 : k < TL.length) (h2 : k < A.length) (j : Nat) (hj : j < A[k].2.length) (h : (ruN TL[k].2.1 A[k].2[j]).2 = false) : nmOk TL A = false := by
  unfold nmOk
  rw [List.all_eq_false]
  refine ⟨(A[k].2.all fun s => (ruN TL[k].2.1 s).2), ?_, ?_⟩
  · rw [List.mem_iff_getElem]
    exact ⟨k, by simp; omega, by simp⟩
  · simp only [id, Bool.not_eq_true]
    rw [List.all_eq_false]
    exact ⟨A[k].2[j], List.getElem_mem hj, by rw [h]; simp⟩
theorem nmOk_good {TL : List Ty} {A : List Atr} (h : ∀ k (h1 : k < TL.length) (h2 : k < A.length) j (hj : j < A[k].2.length), (ruN TL[k].2.1 A[k].2[j]).2 = true) : nmOk TL A = true := by
  unfold nmOk
  rw [List.all_eq_true]
  intro x hx
  obtain ⟨k, hk, rfl⟩ := List.getElem_of_mem hx
  simp only [List.getElem_zipWith, id]
  rw [List.all_eq_true]
  intro s hs
  obtain ⟨j, hj, rfl⟩ := List.getElem_of_mem hs
  exact h k (by simp at hk; omega) (by simp at hk; omega) j hj
def NmsPost (TL : List Ty) (A : List Atr) (w : World) (en : Ending) (w' : World) : Prop :=
  (nmOk TL A = false → en = .returned (.tuple #[.slice none 0 0, .bool false])) ∧ (nmOk TL A = true → ∃ v, en = .returned (.tuple #[v, .bool true]) ∧ GrAt w' v (nmG TL A)) ∧ Below w.heap.size w w'
theorem nmsPost_bad {TL : List Ty} {A : List Atr} {w w' : World} (h : nmOk TL A = false) (hb : Below w.heap.size w w') : NmsPost TL A w (.returned (.tuple #[.slice none 0 0, .bool false])) w' :=
  ⟨fun _ => rfl, (fun h2 => by rw [h] at h2; cases h2), hb⟩
theorem nmsPost_ok {TL : List Ty} {A : List Atr} {w w' : World} {v : Value} (h : nmOk TL A = true) (ht : GrAt w' v (nmG TL A)) (hb : Below w.heap.size w w') : NmsPost TL A w (.returned (.tuple #[v, .bool true])) w' :=
  ⟨(fun h2 => by rw [h] at h2; cases h2), fun _ => ⟨v, rfl, ht⟩, hb⟩
theorem Tryz.sninfo47 : (Tryz.prog.info? 47).map (fun i => (i.zero, i.size, i.bytes)) = some (some (.slice none 0 0), 1, 24) := by kernel_rfl
theorem made_gr (n : Nat) (W : World) (hn : n ≤ 1000000) : (Instr.makeSlice 160 (.int .i64 (n : Int)) (.int .i64 (n : Int))).run Tryz.prog W = .ok (.slice (some ⟨W.heap.size, 0, none⟩) n n) (W.alloc (.cells (List.replicate n (Value.slice none 0 0)).toArray 47)) := by
  obtain ⟨i0, hi, hz0, hz1, hz2⟩ := info_parts Tryz.sninfo47
  have h := run_make (P := Tryz.prog) W 160 47 i0 (.slice none 0 0) Tryz.underlying160 hi hz0 .i64 .i64 (n : Int) (n : Int) (by omega) (by omega) (by rw [hz2]; omega) (by omega)
  have e : madeCells (Value.slice none 0 0).cells ((n : Int).toNat * i0.size) = (List.replicate n (Value.slice none 0 0)).toArray := by
    apply Array.ext'
    rw [hz1, show (n : Int).toNat * 1 = n by omega]
    exact (toList_madeCells_one _ n).trans (by simp)
  rw [e] at h
  simpa using h
def DoneR (w : World) (B : Nat) (vs : List Value) (G : List (List (List UInt8))) (k : Nat) : Prop :=
  ∀ i (h1 : i < vs.length) (h2 : i < G.length), i < k → TxR w vs[i] G[i] ∧ ∀ g o n c, vs[i] = .slice (some ⟨g, o, none⟩) n c → g ≠ B
theorem doneR_chg {w w' : World} {B : Nat} {vs : List Value} {G : List (List (List UInt8))} {k : Nat} (h : DoneR w B vs G k) (hc : Chg (fun j => j = B) w w') : DoneR w' B vs G k := fun i h1 h2 hi =>
  ⟨txR_chg (h i h1 h2 hi).1 hc (fun g o n c e => (h i h1 h2 hi).2 g o n c e), (h i h1 h2 hi).2⟩
theorem doneR_set {w : World} {B : Nat} {vs : List Value} {G : List (List (List UInt8))} {k : Nat} (h : DoneR w B vs G k) (hk : k < vs.length) (hk2 : k < G.length) (v : Value) (hv : TxR w v G[k]) (hb : ∀ g o n c, v = .slice (some ⟨g, o, none⟩) n c → g ≠ B) : DoneR w B (vs.set k v) G (k + 1) := by
  intro i h1 h2 hi
  by_cases e : i = k
  · subst e
    rw [List.getElem_set_self]
    exact ⟨hv, hb⟩
  · rw [List.getElem_set_ne (fun h => e h.symm)]
    exact h i (by simpa using h1) h2 (by omega)
set_option maxHeartbeats 6400000 in
set_option maxRecDepth 100000 in
theorem norms_any (TL : List Ty) (A : List Atr) (tv v : Value) (w : World) (hT : TyAt w tv TL) (hA : AtAt w v A) (hl2 : TL.length = A.length) (hl : A.length ≤ 1000000) (hv : ∀ a ∈ A, a.2.length ≤ 1000000) (he : ErrOk w) :
    Calls Tryz.prog 101 #[tv, v] w (NmsPost TL A w) := by
  obtain ⟨ta, tc, rfl, htc⟩ := hT
  obtain ⟨a, c, rfl, hcells⟩ := hA
  have HT := Lib.hid htc
  have HM := Lib.hid hcells
  have HV := Lib.hid hv
  have HE := Lib.hid he
  have HBad := Lib.hid (nmOk_bad (TL := TL) (A := A))
  have HGood := Lib.hid (nmOk_good (TL := TL) (A := A))
  obtain ⟨n, hn⟩ : ∃ n, A.length = n := ⟨_, rfl⟩
  have hnT : TL.length = n := hl2.trans hn
  have HL := Lib.hid (And.intro hn hnT)
  obtain ⟨G, hG⟩ : ∃ G, nmG TL A = G := ⟨_, rfl⟩
  have hGl : G.length = n := by rw [← hG]; unfold nmG; simp; omega
  have HG := Lib.hid (And.intro hG hGl)
  rw [hn] at hl ⊢
  rw [hnT]
  have hmk := fun W => made_gr n W hl
  obtain ⟨M, hM⟩ : ∃ M, (List.replicate n (Value.slice none 0 0)).toArray = M := ⟨_, rfl⟩
  rw [hM] at hmk
  obtain ⟨W1, hW1⟩ : ∃ W1, w.alloc (.cells M 47) = W1 := ⟨_, rfl⟩
  have hb0 : Below w.heap.size w W1 := by rw [← hW1]; exact (Below.refl _ w).alloc (Nat.le_refl _) _
  have x0 : W1.heap[w.heap.size]? = some (.cells (List.replicate n (Value.slice none 0 0)).toArray 47 (0, 0)) := by rw [← hW1, hM]; exact heap_alloc_new w _
  have HX := Lib.hid (And.intro hb0 x0)
  have HW1 := Lib.hid hW1
  clear htc hcells hv he hn hnT hG hGl hM hW1 hb0 x0 hl2
  go_enter Tryz.func101, Tryz.ntmps101
  go_wp2
  rw [HW1.out]
  clear hmk
  go_loopw [18] (fun v wr => ∃ (k : Nat) (vs : List Value), k ≤ n ∧ v = .int .i64 (k : Nat) ∧ vs.length = n ∧ wr.heap[w.heap.size]? = some (.cells vs.toArray 47 (0, 0)) ∧ (∀ i (h : i < vs.length), k ≤ i → vs[i] = .slice none 0 0) ∧ DoneR wr w.heap.size vs G k ∧ Below w.heap.size w wr ∧
      ∀ i (h1 : i < TL.length) (h2 : i < A.length) j (hj : j < A[i].2.length), i < k → (ruN TL[i].2.1 A[i].2[j]).2 = true) (fun v _ => n - (intOf v).toNat)
  case atStart => exact ⟨0, List.replicate n (.slice none 0 0), by omega, rfl, by simp, HX.out.2, fun i h _ => by simp, fun i h1 h2 h => by omega, HX.out.1, fun i h1 h2 j hj h => by omega⟩
  case round =>
    obtain ⟨k, vs, hk, rfl, hvl, hblk, hnil, hdone, hb, hall⟩ := hrel
    obtain ⟨wo, rfl⟩ : ∃ wo, wo = wr := ⟨_, rfl⟩
    have hsr := hb.size
    by_cases hlt : k < n
    · have hkl : (k : Int) < (n : Int) := by omega
      have hkm : k < A.length := by rw [HL.out.1]; exact hlt
      have hkT : k < TL.length := by rw [HL.out.2]; exact hlt
      have hkG : k < G.length := by rw [HG.out.2]; exact hlt
      have hkv : k < vs.length := by rw [hvl]; exact hlt
      obtain ⟨g1, o1, vl, rfl, hg1, e0w, e1w, hvlx⟩ := HM.out k hkm
      obtain ⟨g2, o2, rfl, hg2, t0w, t1w, t2w⟩ := HT.out k hkT
      obtain ⟨va, vc, rfl, hvx⟩ := hvlx
      have HVX := Lib.hid hvx
      have e0 := (hb.cell (p := ⟨g1, _, none⟩) hg1).trans e0w
      have e1 := (hb.cell (p := ⟨g1, _, none⟩) hg1).trans e1w
      have hvln := HV.out _ (List.getElem_mem hkm)
      have hzr : w.heap.size < wo.heap.size := obj_lt hblk
      obtain ⟨m, hm⟩ : ∃ x, A[k].2.length = x := ⟨_, rfl⟩
      have HMl := Lib.hid hm
      rw [hm] at e1 hvln
      obtain ⟨rl, hrl⟩ : ∃ x, TL[k].2.1 = x := ⟨_, rfl⟩
      rw [hrl] at t1w
      have hGk : G[k] = (A[k].2.map fun s => (ruN rl s).1) := by
        have := HG.out.1
        subst this
        simp [nmG, nmV, hrl]
      have HGk := Lib.hid hGk
      have hB1 : ∀ j (hj : j < A[k].2.length), (ruN rl A[k].2[j]).2 = false → nmOk TL A = false := fun j hj h => HBad.out k hkT hkm j hj (by rw [hrl]; exact h)
      have HB1 := Lib.hid hB1
      obtain ⟨nm, hnm⟩ : ∃ x, A[k].1 = x := ⟨_, rfl⟩
      rw [hnm] at e0
      obtain ⟨W2, hW2⟩ : ∃ W2, wo.alloc (.cells #[.string ⟨nm.toArray⟩, .slice va m vc] 81) = W2 := ⟨_, rfl⟩
      have hb2 : Below wo.heap.size wo W2 := by rw [← hW2]; exact (Below.refl _ wo).alloc (Nat.le_refl _) _
      have y2 : W2.heap[wo.heap.size]? = some (.cells #[.string ⟨nm.toArray⟩, .slice va m vc] 81 (0, 0)) := by rw [← hW2]; exact heap_alloc_new wo _
      obtain ⟨i0, i1⟩ := obj2s y2
      have hkn := hnil k hkv (Nat.le_refl _)
      have hvs0 : vs.set k (.slice none 0 0) = vs := by
        rw [← hkn]; exact List.set_getElem_self hkv
      have hall2 : (∀ j (hj : j < A[k].2.length), (ruN rl A[k].2[j]).2 = true) → ∀ i (h1 : i < TL.length) (h2 : i < A.length) j (hj : j < A[i].2.length), i < k + 1 → (ruN TL[i].2.1 A[i].2[j]).2 = true := by
        intro hx i h1 h2 j hj hi
        by_cases e : i = k
        · subst e; rw [hrl]; exact hx j hj
        · exact hall i h1 h2 j hj (by omega)
      have HAl := Lib.hid hall2
      have HI := Lib.hid (And.intro hvl (And.intro hblk (And.intro hnil (And.intro hdone (And.intro hb hvs0)))))
      have HW2 := Lib.hid hW2
      have HB2 := Lib.hid hb2
      have HT1 := Lib.hid t1w
      clear hvl hblk hnil hdone hb hvs0 hall hall2 hW2 hb2 y2 hkn hnm hrl hGk hB1 hm hvx e0w e1w t0w t1w t2w
      go_wp2
      rw [HW2.out]
      clear i0 i1 e0 e1
      go_loopw [26] (fun v wz => ∃ (j : Nat) (cv : Value), j ≤ m ∧ v = .int .i64 (j : Nat) ∧ wz.heap[w.heap.size]? = some (.cells (vs.set k cv).toArray 47 (0, 0)) ∧ wz.ownsRow wo.heap.size 9 1 cv j (sc (G[k].take j)) ∧ Chg (fun i => i = w.heap.size) wo wz ∧
          ∀ q (hq : q < A[k].2.length), q < j → (ruN rl A[k].2[q]).2 = true) (fun v _ => m - (intOf v).toNat)
      case atStart => exact ⟨0, .slice none 0 0, by omega, rfl, by rw [HI.out.2.2.2.2.2]; exact obj_below HI.out.2.1 HB2.out hzr, ⟨rfl, .inl ⟨rfl, rfl⟩⟩, Chg.ofBelow HB2.out, fun q _ h => by omega⟩
      case round =>
        obtain ⟨j, cv, hj, rfl, hblk, hrow, hch, hgood⟩ := hrel
        have hsz := hch.size
        have hbw : Below w.heap.size w wr := HI.out.2.2.2.2.1.trans (hch.toBelow hsr (fun i _ h => by have h : i = w.heap.size := h; omega))
        have hkvs : k < (vs.set k cv).length := by rw [List.length_set]; exact hkv
        obtain ⟨ca, cc, rfl⟩ := ownsRow_slice hrow
        by_cases hjl : j < m
        · have hji : (j : Int) < (m : Int) := by omega
          have hjm : j < A[k].2.length := by rw [HMl.out]; exact hjl
          obtain ⟨g3, o3, rfl, hg3, vw⟩ := HVX.out j hjm
          have v0 := (hbw.cell (p := ⟨g3, _, none⟩) hg3).trans vw
          have t1 := (hbw.cell (p := ⟨g2, _, none⟩) hg2).trans HT1.out
          have HB1j := Lib.hid (HB1.out j hjm)
          have hjG : j < G[k].length := by rw [HGk.out]; simpa using hjm
          have hGj : G[k][j] = (ruN rl A[k].2[j]).1 := by simp [HGk.out]
          obtain ⟨s, hs⟩ : ∃ s, A[k].2[j] = s := ⟨_, rfl⟩
          have hgd2 : (ruN rl s).2 = true → ∀ q (hq : q < A[k].2.length), q < j + 1 → (ruN rl A[k].2[q]).2 = true := by
            intro hx q hq hqj
            by_cases e : q = j
            · subst e; rw [hs]; exact hx
            · exact hgood q hq (by omega)
          rw [hs] at v0 hGj HB1j
          have HN := Lib.hid (runorm_any rl s wr (errOk_below HE.out hbw))
          have HJ := Lib.hid (And.intro hblk (And.intro hrow (And.intro hch (And.intro hbw (And.intro hjG hGj)))))
          obtain ⟨⟨x, ok⟩, hp⟩ : ∃ p, ruN rl s = p := ⟨_, rfl⟩
          rw [hp] at HN HB1j hgd2
          have HGd := Lib.hid hgd2
          have HP := Lib.hid (show (ruN rl s).1 = x by rw [hp])
          have hbz : w.heap.size < wr.heap.size := obj_lt hblk
          clear hblk hrow hch hbw hgood vw hs hp hgd2 hGj
          go_wp2_with fail
          refine HN.out.mono ?_
          rintro en w5 ⟨rfl, hb5⟩
          have hb5s := hb5.size
          cases ok with
          | false =>
            have HQ := Lib.hid (And.intro (HB1j.out rfl) (HJ.out.2.2.2.1.trans (hb5.mono HJ.out.2.2.2.1.size)))
            clear hb5 v0 t1
            go_wp2
            go_ret2
            exact nmsPost_bad HQ.out.1 HQ.out.2
          | true =>
            have HQ := Lib.hid (HGd.out rfl)
            have blk5 := obj_below HJ.out.1 hb5 hbz
            have row5 := ownsRow_below HJ.out.2.1 hb5
            have ch5 : Chg (fun i => i = w.heap.size) wo w5 := HJ.out.2.2.1.below (hb5.mono hsz)
            have c5 := obj_cell blk5 k (.slice ca j cc) (by simp [hkv])
            have HK := Lib.hid (And.intro blk5 (And.intro row5 ch5))
            have hz5 : w.heap.size < w5.heap.size := obj_lt blk5
            have hso5 : wo.heap.size ≤ w5.heap.size := ch5.size
            clear hb5 v0 t1 blk5 row5 ch5
            go_wp2_with (at_builtin; refine wpList_pushc rfl (.tmp 47) (.tmp 49) 47 9 rfl wo.heap.size 1 16 _ Tryz.sninfo9 Tryz.underlying47 rfl (by decide) [_] rfl (by intro u hu; simp at hu; subst hu; rfl) (.slice ca j cc) j (sc (G[k].take j)) rfl _ rfl rfl HK.out.2.1 (by unfold maxLen; omega) (by omega) hso5 ?_; intro v' w' h1 h2 h3; obtain ⟨na, nc, rfl⟩ := ownsRow_slice h1; have g9 := obj_chg HK.out.1 h2 (fun e => by have := (HK.out.2.1.lt _ e.symm).1; omega); have q1 := obj_free g9 k; have q2 := obj_cell g9 k (.slice ca j cc) (by simp [hkv]))
            have hblk6 : (w'.setCell ⟨w.heap.size, k, none⟩ (.slice na (j + 1) nc)).heap[w.heap.size]? = some (.cells (vs.set k (.slice na (j + 1) nc)).toArray 47 (0, 0)) := by
              have := obj_set g9 k (.slice na (j + 1) nc)
              rw [List.setIfInBounds_toArray, List.set_set] at this
              exact this
            have chS : Chg (fun i => i = w.heap.size) w' (w'.setCell ⟨w.heap.size, k, none⟩ (.slice na (j + 1) nc)) := (Chg.refl (fun i => i = w.heap.size) w').setCell (p := ⟨w.heap.size, k, none⟩) (fun _ => rfl) _
            have hch6 : Chg (fun i => i = w.heap.size) wo (w'.setCell ⟨w.heap.size, k, none⟩ (.slice na (j + 1) nc)) := (HK.out.2.2.trans h2 (fun i hi h => by have := (HK.out.2.1.lt i h.symm).1; omega)).trans chS (fun _ _ h => h)
            have hrow6 := ownsRow_chg h1 chS (fun i hi e => by have := (h1.lt i hi).1; have e : i = w.heap.size := e; omega)
            refine ⟨⟨j + 1, .slice na (j + 1) nc, by omega, by go_num, hblk6, ?_, hch6, HQ.out⟩, by simp [intOf]; omega⟩
            rw [List.take_succ_eq_append_getElem hjG, sc_append, HJ.out.2.2.2.2.2, HP.out]
            exact hrow6
        · obtain rfl : j = m := by omega
          have hGl2 : G[k].length = j := by rw [HGk.out]; simpa using HMl.out
          have hrow2 : wr.ownsRow wo.heap.size 9 1 (.slice ca j cc) G[k].length (sc G[k]) := by
            have h1 : G[k].take j = G[k] := List.take_of_length_le (by omega)
            rw [h1] at hrow
            rw [hGl2]
            exact hrow
          have htx : TxR wr (.slice ca j cc) G[k] := txR_owns hrow2
          have hdn := doneR_set (doneR_chg HI.out.2.2.2.1 hch) hkv hkG (.slice ca j cc) htx (fun g o n c e => by injection e with e; have := (hrow.lt g (by rw [e]; rfl)).1; omega)
          have hnil2 : ∀ i (h : i < (vs.set k (.slice ca j cc)).length), k + 1 ≤ i → (vs.set k (.slice ca j cc))[i] = .slice none 0 0 := by
            intro i h hi
            rw [List.getElem_set_ne (by omega)]
            exact HI.out.2.2.1 i (by simpa using h) (by omega)
          have HF := Lib.hid (And.intro hblk (And.intro hnil2 (And.intro hdn (And.intro hbw (HAl.out (fun q hq => hgood q hq (by rw [HMl.out] at hq; omega)))))))
          have hvl2 : (vs.set k (Value.slice ca j cc)).length = n := by rw [List.length_set]; exact HI.out.1
          clear hblk hrow hrow2 htx hdn hnil2 hch hbw hgood hGl2
          go_wp2
          exact ⟨⟨k + 1, _, by omega, by go_num, hvl2, HF.out.1, HF.out.2.1, HF.out.2.2.1, HF.out.2.2.2.1, HF.out.2.2.2.2⟩, by simp [intOf]; omega⟩
    · obtain rfl : k = n := by omega
      have hgr : GrAt wo (.slice (some ⟨w.heap.size, 0, none⟩) k k) G := by
        refine ⟨_, _, by rw [HG.out.2], fun i hi => ?_⟩
        have hi2 : i < vs.length := by rw [hvl, ← HG.out.2]; exact hi
        refine ⟨w.heap.size, 0, vs[i], rfl, obj_lt hblk, ?_, (hdone i hi2 hi (by rw [← hvl]; exact hi2)).1⟩
        rw [Nat.zero_add]
        exact obj_cell hblk i _ (by simp [hi2])
      have H := Lib.hid (And.intro hgr (And.intro hb (HGood.out (fun i h1 h2 j hj => hall i h1 h2 j hj (by rw [← HL.out.2]; exact h1)))))
      clear hvl hblk hnil hdone hb hall hgr
      go_wp2
      go_ret2
      exact nmsPost_ok H.out.2.2 (by rw [HG.out.1]; exact H.out.1) H.out.2.1
end Go.Proofs.YtbmnpjkcomcboaaGreatDoor
namespace Go.Proofs.YtbmnpjkcomcboaaGreatDoor
set_option linter.unusedSimpArgs false
set_option linter.unusedVariables false
open Go Go.RowKit Go.Proofs.BerK Go.Proofs.MemK Go.Proofs.UtfK

theorem nmAt_form {w : World} {mv : Value} {N : List (List UInt8)} (h : NmAt w mv N) : ∃ q, mv = .map q := by
  rcases h with ⟨h, _⟩ | ⟨b, D, h, _⟩
  · exact ⟨_, h⟩
  · exact ⟨_, h⟩
def NmsV (N : List (List UInt8)) (w : World) (en : Ending) (w' : World) : Prop :=
  (¬ N.Nodup → en = .returned (.tuple #[.agg #[.map none], .bool false])) ∧ (N.Nodup → ∃ mv, en = .returned (.tuple #[.agg #[mv], .bool true]) ∧ NmAt w' mv N) ∧ Below w.heap.size w w'
theorem nmsV_bad {N : List (List UInt8)} {w w' : World} (h : ¬ N.Nodup) (hb : Below w.heap.size w w') : NmsV N w (.returned (.tuple #[.agg #[.map none], .bool false])) w' := ⟨fun _ => rfl, fun h2 => absurd h2 h, hb⟩
theorem nmsV_ok {N : List (List UInt8)} {w w' : World} {mv : Value} (h : N.Nodup) (hm : NmAt w' mv N) (hb : Below w.heap.size w w') : NmsV N w (.returned (.tuple #[.agg #[mv], .bool true])) w' := ⟨fun h2 => absurd h h2, fun _ => ⟨mv, rfl, hm⟩, hb⟩
def TbAt (w : World) (g B : Nat) (N : List (List UInt8)) : Prop := ∃ mv, w.heap[g]? = some (.cells #[mv] 103 (0, 0)) ∧ NmAt w mv N ∧ (∀ b, mv = .map (some b) → B ≤ b)
theorem tbAt_new (w : World) : TbAt (w.alloc (.cells #[.map none] 103)) w.heap.size w.heap.size [] := ⟨.map none, heap_alloc_new w _, nmAt_nil _, fun b h => by cases h⟩
theorem tbAt_below {w w' : World} {g B : Nat} {N : List (List UInt8)} (h : TbAt w g B N) (hb : Below w.heap.size w w') : TbAt w' g B N := by
  obtain ⟨mv, h1, h2, h3⟩ := h
  exact ⟨mv, obj_below h1 hb (obj_lt h1), nmAt_below h2 hb, h3⟩
def TbPost (g B : Nat) (N : List (List UInt8)) (s : List UInt8) (w : World) (en : Ending) (w' : World) : Prop :=
  (∀ i, ixL N s = some i → en = .returned (.bool false) ∧ w = w') ∧ (ixL N s = none → en = .returned (.bool true) ∧ TbAt w' g B (N ++ [s]) ∧ Below B w w')
theorem tbAdd_any (g B : Nat) (N : List (List UInt8)) (s : List UInt8) (w : World) (h : TbAt w g B N) (hB : B ≤ g) (hBw : B ≤ w.heap.size) (hN : N.length ≤ 1000000) (hs : s.length ≤ 140737488355328) :
    Calls Tryz.prog 80 #[.pointer (some ⟨g, 0, none⟩), .string ⟨s.toArray⟩] w (TbPost g B N s w) := by
  obtain ⟨mv, h1, h2, h3⟩ := h
  refine (add_any g 0 #[mv] _ mv N s w h1 rfl h2 hN hs).mono ?_
  rintro en w' ⟨ha, hb⟩
  refine ⟨ha, fun hq => ?_⟩
  obtain ⟨b, rfl, g8, nm8, hmb, ch8⟩ := hb hq
  refine ⟨rfl, ⟨.map (some b), g8, nm8, fun b' e => ?_⟩, ch8.toBelow hBw (fun k _ hk => ?_)⟩
  · injection e with e; injection e with e; subst e
    rcases hmb with e | ⟨_, e⟩
    · exact h3 _ e
    · omega
  · rcases hk with hk | hk
    · omega
    · exact h3 _ hk
set_option maxHeartbeats 1600000 in
set_option maxRecDepth 100000 in
theorem namesOf_any (TL : List Ty) (tv : Value) (w : World) (hT : TyAt w tv TL) (hl : TL.length ≤ 1000000) (hs : ∀ t ∈ TL, t.1.length ≤ 140737488355328) :
    Calls Tryz.prog 102 #[tv] w (NmsV (TL.map (·.1)) w) := by
  obtain ⟨ta, tc, rfl, htc⟩ := hT
  have HT := Lib.hid htc
  have HS := Lib.hid hs
  obtain ⟨n, hn⟩ : ∃ n, TL.length = n := ⟨_, rfl⟩
  have HL := Lib.hid hn
  obtain ⟨N, hN⟩ : ∃ N, TL.map (·.1) = N := ⟨_, rfl⟩
  have HN := Lib.hid hN
  have hNl : N.length = n := by rw [← hN]; simpa using hn
  have HNl := Lib.hid hNl
  rw [hN]
  rw [hn] at hl ⊢
  have hb1 : Below w.heap.size w ((w.alloc (.cells #[.map none] 103)).alloc (.cells #[.map none] 103)) := ((Below.refl _ w).alloc (Nat.le_refl _) _).alloc (by simp) _
  have x0 : ((w.alloc (.cells #[.map none] 103)).alloc (.cells #[.map none] 103)).heap[w.heap.size]? = some (.cells #[.map none] 103 (0, 0)) := obj_alloc (heap_alloc_new w _) _
  have tb0 := tbAt_new (w.alloc (.cells #[.map none] 103))
  rw [World.size_alloc] at tb0
  have hs1 : ((w.alloc (.cells #[.map none] 103)).alloc (.cells #[.map none] 103)).heap.size = w.heap.size + 2 := by simp
  obtain ⟨W1, hW1⟩ : ∃ W1, (w.alloc (.cells #[.map none] 103)).alloc (.cells #[.map none] 103) = W1 := ⟨_, rfl⟩
  rw [hW1] at hb1 x0 tb0 hs1
  have HX := Lib.hid (And.intro hb1 (And.intro x0 tb0))
  have HW1 := Lib.hid hW1
  clear htc hs hn hN hNl hW1 hb1 x0 tb0
  go_enter Tryz.func102, Tryz.ntmps102
  go_wp2
  rw [HW1.out]
  go_loopw [9] (fun v wr => ∃ k : Nat, k ≤ n ∧ v = .int .i64 (k : Nat) ∧ TbAt wr (w.heap.size + 1) (w.heap.size + 1) (N.take k) ∧ (N.take k).Nodup ∧ Below (w.heap.size + 1) W1 wr) (fun v _ => n - (intOf v).toNat)
  case atStart => exact ⟨0, by omega, rfl, HX.out.2.2, by simp, Below.refl _ _⟩
  case round =>
    obtain ⟨k, hk, rfl, htb, hnd, hb⟩ := hrel
    have hsr := hb.size
    have hbw : Below w.heap.size w wr := HX.out.1.trans (hb.mono (by omega))
    have x0 := obj_below HX.out.2.1 hb (by omega)
    by_cases hlt : k < n
    · have hkl : (k : Int) < (n : Int) := by omega
      have hkm : k < TL.length := by rw [HL.out]; exact hlt
      obtain ⟨g1, o1, rfl, hg1, e0w, e1w, e2w⟩ := HT.out k hkm
      have e0 := (hbw.cell (p := ⟨g1, _, none⟩) hg1).trans e0w
      have e1 := (hbw.cell (p := ⟨g1, _, none⟩) hg1).trans e1w
      have e2 := (hbw.cell (p := ⟨g1, _, none⟩) hg1).trans e2w
      have hsk := HS.out _ (List.getElem_mem hkm)
      have hkN : k < N.length := by rw [HNl.out]; exact hlt
      have hNk : N[k] = TL[k].1 := by
        have := HN.out
        subst this
        simp
      obtain ⟨nm, hnm⟩ : ∃ x, TL[k].1 = x := ⟨_, rfl⟩
      obtain ⟨rl, hrl⟩ : ∃ x, TL[k].2.1 = x := ⟨_, rfl⟩
      obtain ⟨sg, hsg⟩ : ∃ x, TL[k].2.2 = x := ⟨_, rfl⟩
      rw [hnm] at e0 hsk hNk
      rw [hrl] at e1
      rw [hsg] at e2
      have hts : N.take (k + 1) = N.take k ++ [nm] := by rw [List.take_succ_eq_append_getElem hkN, hNk]
      obtain ⟨W2, hW2⟩ : ∃ W2, wr.alloc (.cells #[.string ⟨nm.toArray⟩, .int .i64 rl, .bool sg] 76) = W2 := ⟨_, rfl⟩
      have hb2 : Below wr.heap.size wr W2 := by rw [← hW2]; exact (Below.refl _ wr).alloc (Nat.le_refl _) _
      have y2 : W2.heap[wr.heap.size]? = some (.cells #[.string ⟨nm.toArray⟩, .int .i64 rl, .bool sg] 76 (0, 0)) := by rw [← hW2]; exact heap_alloc_new wr _
      have HC := Lib.hid (tbAdd_any (w.heap.size + 1) (w.heap.size + 1) (N.take k) nm W2 (tbAt_below htb hb2) (Nat.le_refl _) (by have := hb2.size; omega) (by simp; omega) hsk)
      obtain ⟨i0, i1, i2⟩ := obj3 y2
      have HI := Lib.hid (And.intro hnd (And.intro (hb.trans (hb2.mono (by omega))) (And.intro hts (And.intro hNk hkN))))
      have HW2 := Lib.hid hW2
      have HX2 := Lib.hid (And.intro (obj_below x0 hb2 (obj_lt x0)) (hbw.trans (hb2.mono hbw.size)))
      clear htb hnd hb hbw x0 e0w e1w e2w hsk hNk hnm hrl hsg hts hW2 hb2 y2
      go_wp2_with fail
      rw [HW2.out]
      refine HC.out.mono ?_
      rintro en w5 ⟨hhit, hnew⟩
      have HA := Lib.hid (And.intro hhit hnew)
      clear hhit hnew
      cases hq : ixL (N.take k) nm with
      | some i =>
        obtain ⟨rfl, rfl⟩ := HA.out.1 i hq
        have HQ := Lib.hid (nodup_take_not HI.out.2.2.2.2 HI.out.2.2.2.1 hq)
        clear hq
        have r0 := obj_cell HX2.out.1 0 _ rfl
        have f0 := obj_free HX2.out.1 0
        go_wp2
        have s0 := obj_cell (obj_set HX2.out.1 0 (.map none)) 0 (.map none) rfl
        refine bodyPost_ret (v := .tuple #[.agg #[.map none], .bool false]) (by simp [results, Tryz.results102, go_sem, *]) rfl ?_
        exact nmsV_bad HQ.out (HX2.out.2.setCell (p := ⟨w.heap.size, 0, none⟩) (Nat.le_refl _) _)
      | none =>
        obtain ⟨rfl, htb5, hb5⟩ := HA.out.2 hq
        have HE := Lib.hid (And.intro htb5 (And.intro (nodup_snoc HI.out.1 hq) (HI.out.2.1.trans hb5)))
        clear hq htb5 hb5 i0 i1 i2
        go_wp2
        refine ⟨⟨k + 1, by omega, by go_num, ?_, ?_, HE.out.2.2⟩, by simp [intOf]; omega⟩
        · rw [HI.out.2.2.1]; exact HE.out.1
        · rw [HI.out.2.2.1]; exact HE.out.2.1
    · obtain rfl : k = n := by omega
      have hNt : N.take k = N := List.take_of_length_le (by rw [HNl.out]; exact Nat.le_refl _)
      rw [hNt] at htb hnd
      obtain ⟨mv, h1, h2, h3⟩ := htb
      obtain ⟨q, rfl⟩ := nmAt_form h2
      have r1 := obj_cell h1 0 _ rfl
      have r0 := obj_cell x0 0 _ rfl
      have f0 := obj_free x0 0
      have H := Lib.hid (And.intro hnd (And.intro (nmAt_chg h2 ((Chg.refl (fun i => i = w.heap.size) wr).setCell (p := ⟨w.heap.size, 0, none⟩) (fun _ => rfl) (.map q)) (fun b hb e => by have := h3 b hb; have e : b = w.heap.size := e; omega)) (And.intro (hbw.setCell (p := ⟨w.heap.size, 0, none⟩) (Nat.le_refl _) (.map q)) (obj_cell (obj_set x0 0 (.map q)) 0 (.map q) rfl))))
      clear hnd hb hbw x0 h1 h2 h3 hNt
      go_wp2
      have s0 := H.out.2.2.2
      refine bodyPost_ret (v := .tuple #[.agg #[.map q], .bool true]) (by simp [results, Tryz.results102, go_sem, *]) rfl ?_
      exact nmsV_ok H.out.1 H.out.2.1 H.out.2.2.1
end Go.Proofs.YtbmnpjkcomcboaaGreatDoor
namespace Go.Proofs.YtbmnpjkcomcboaaGreatDoor
set_option linter.unusedSimpArgs false
set_option linter.unusedVariables false
open Go Go.RowKit Go.Proofs.BerK Go.Proofs.MemK Go.Proofs.UtfK

def dupL (l : List (List UInt8)) : Bool := !decide l.Nodup
theorem dup_yes {l : List (List UInt8)} (h : ¬ l.Nodup) : dupL l = true := by unfold dupL; rw [decide_eq_false h]; rfl
theorem dup_no {l : List (List UInt8)} (h : l.Nodup) : dupL l = false := by unfold dupL; rw [decide_eq_true h]; rfl
def TwPost (g : Nat) (N : List (List UInt8)) (s : List UInt8) (w : World) (en : Ending) (w' : World) : Prop :=
  (∀ i, ixL N s = some i → en = .returned (.bool true) ∧ w = w') ∧ (ixL N s = none → en = .returned (.bool false) ∧ TbAt w' g g (N ++ [s]) ∧ Below g w w')
set_option maxHeartbeats 400000 in
set_option maxRecDepth 100000 in
theorem tw1_any (g : Nat) (N : List (List UInt8)) (s : List UInt8) (w : World) (h : TbAt w g g N) (hB : g ≤ w.heap.size) (hN : N.length ≤ 1000000) (hs : s.length ≤ 140737488355328) :
    Calls Tryz.prog 140 #[.string ⟨s.toArray⟩, .pointer (some ⟨g, 0, none⟩)] w (TwPost g N s w) := by
  have HC := Lib.hid (tbAdd_any g g N s w h (Nat.le_refl _) hB hN hs)
  clear h
  go_enter Tryz.func140, Tryz.ntmps140
  go_wp2_with fail
  refine HC.out.mono ?_
  rintro en w5 ⟨hhit, hnew⟩
  have HA := Lib.hid (And.intro hhit hnew)
  clear hhit hnew
  cases hq : ixL N s with
  | some i =>
    obtain ⟨rfl, rfl⟩ := HA.out.1 i hq
    have HQ := Lib.hid hq
    clear hq
    go_wp2
    go_ret
    exact ⟨fun _ _ => ⟨rfl, rfl⟩, (fun h => by rw [HQ.out] at h; cases h)⟩
  | none =>
    obtain ⟨rfl, htb5, hb5⟩ := HA.out.2 hq
    have HQ := Lib.hid (And.intro hq (And.intro htb5 hb5))
    clear hq htb5 hb5
    go_wp2
    go_ret
    exact ⟨(fun i h => by rw [HQ.out.1] at h; cases h), fun _ => ⟨rfl, HQ.out.2.1, HQ.out.2.2⟩⟩
def IxB (b : Bool) (g : Nat) (w : World) (en : Ending) (w' : World) : Prop := ∃ n : Int, en = .returned (.int .i64 n) ∧ decide (0 ≤ n) = b ∧ Below g w w'
set_option maxHeartbeats 1600000 in
set_option maxRecDepth 100000 in
theorem twi_any (l : List (List UInt8)) (v : Value) (g : Nat) (w0 w : World) (ht : TxR w0 v l) (hb0 : Below g w0 w) (hg0 : w0.heap.size ≤ g) (h : TbAt w g g []) (hl : l.length ≤ 1000000) (hs : ∀ s ∈ l, s.length ≤ 140737488355328) :
    Calls Tryz.prog 126 #[v, .func (.func 140) #[] #[.pointer (some ⟨g, 0, none⟩)]] w (IxB (dupL l) g w) := by
  obtain ⟨a, c, rfl, hcells⟩ := ht
  have HM := Lib.hid hcells
  have HS := Lib.hid hs
  have HB0 := Lib.hid hb0
  have HT := Lib.hid h
  obtain ⟨n, hn⟩ : ∃ n, l.length = n := ⟨_, rfl⟩
  have HL := Lib.hid hn
  rw [hn] at hl ⊢
  have hgw : g < w.heap.size := by obtain ⟨mv, h1, _⟩ := h; exact obj_lt h1
  clear hcells hn hs h hb0
  go_enter Tryz.func126, Tryz.ntmps126
  go_wp2
  go_loopw [8] (fun v wr => ∃ k : Nat, k ≤ n ∧ v = .int .i64 (k : Nat) ∧ TbAt wr g g (l.take k) ∧ (l.take k).Nodup ∧ Below g w wr) (fun v _ => n - (intOf v).toNat)
  case atStart => exact ⟨0, by omega, rfl, HT.out, by simp, Below.refl _ _⟩
  case round =>
    obtain ⟨k, hk, rfl, htb, hnd, hb⟩ := hrel
    have hsr := hb.size
    by_cases hlt : k < n
    · have hkl : (k : Int) < (n : Int) := by omega
      have hkm : k < l.length := by rw [HL.out]; exact hlt
      obtain ⟨g1, o1, rfl, hg1, e0w⟩ := HM.out k hkm
      have e0 := ((HB0.out.trans hb).cell (p := ⟨g1, _, none⟩) (by show g1 < g; omega)).trans e0w
      have hsk := HS.out _ (List.getElem_mem hkm)
      obtain ⟨s, hsk2⟩ : ∃ x, l[k] = x := ⟨_, rfl⟩
      rw [hsk2] at e0 hsk
      have hts : l.take (k + 1) = l.take k ++ [s] := by rw [List.take_succ_eq_append_getElem hkm, hsk2]
      have HC := Lib.hid (tw1_any g (l.take k) s wr htb (by omega) (by simp; omega) hsk)
      have HI := Lib.hid (And.intro hnd (And.intro hb (And.intro hts (And.intro hsk2 hkm))))
      clear htb hnd hb e0w hsk hts hsk2
      go_wp2_with fail
      refine HC.out.mono ?_
      rintro en w5 ⟨hhit, hnew⟩
      have HA := Lib.hid (And.intro hhit hnew)
      clear hhit hnew
      cases hq : ixL (l.take k) s with
      | some i =>
        obtain ⟨rfl, rfl⟩ := HA.out.1 i hq
        have HQ := Lib.hid (dup_yes (nodup_take_not HI.out.2.2.2.2 HI.out.2.2.2.1 hq))
        clear hq e0
        go_wp2
        go_ret
        exact ⟨_, rfl, by rw [HQ.out]; simp, HI.out.2.1⟩
      | none =>
        obtain ⟨rfl, htb5, hb5⟩ := HA.out.2 hq
        have HE := Lib.hid (And.intro htb5 (And.intro (nodup_snoc HI.out.1 hq) (HI.out.2.1.trans hb5)))
        clear hq htb5 hb5 e0
        go_wp2
        refine ⟨⟨k + 1, by omega, by go_num, ?_, ?_, HE.out.2.2⟩, by simp [intOf]; omega⟩
        · rw [HI.out.2.2.1]; exact HE.out.1
        · rw [HI.out.2.2.1]; exact HE.out.2.1
    · obtain rfl : k = n := by omega
      have hNt : l.take k = l := List.take_of_length_le (by rw [HL.out]; exact Nat.le_refl _)
      rw [hNt] at hnd
      have H := Lib.hid (And.intro (dup_no hnd) hb)
      clear htb hnd hb hNt
      go_wp2
      go_ret
      exact ⟨_, rfl, by rw [H.out.1]; rfl, H.out.2⟩
set_option maxHeartbeats 1600000 in
set_option maxRecDepth 100000 in
theorem hasTwice_any (l : List (List UInt8)) (v : Value) (w : World) (ht : TxR w v l) (hl : l.length ≤ 1000000) (hs : ∀ s ∈ l, s.length ≤ 140737488355328) :
    Calls Tryz.prog 104 #[v] w (BB (dupL l) w) := by
  have hb0 : Below w.heap.size w (w.alloc (.cells #[.map none] 103)) := (Below.refl _ w).alloc (Nat.le_refl _) _
  have HC := Lib.hid (twi_any l v w.heap.size w _ ht hb0 (Nat.le_refl _) (tbAt_new w) hl hs)
  have HB := Lib.hid hb0
  obtain ⟨a, c, rfl, _⟩ := ht
  obtain ⟨R, hR⟩ : ∃ R, dupL l = R := ⟨_, rfl⟩
  rw [hR] at HC ⊢
  clear hs hb0 hR
  go_enter Tryz.func104, Tryz.ntmps104
  go_wp2_with fail
  go_in
  go_wp2_with fail
  refine HC.out.mono ?_
  rintro en w1 ⟨n, rfl, hn, hb⟩
  have H := Lib.hid (And.intro hn (HB.out.trans hb))
  clear hn hb
  go_wp2
  go_ret
  exact bB_mk H.out.1.symm H.out.2
set_option maxHeartbeats 1600000 in
set_option maxRecDepth 100000 in
theorem cnGi_any (T : List (List (List UInt8))) (tv : Value) (w : World) (h : GrAt w tv T) (hl : T.length ≤ 1000000) (hl2 : ∀ l ∈ T, l.length ≤ 1000000 ∧ ∀ s ∈ l, s.length ≤ 140737488355328) :
    Calls Tryz.prog 139 #[tv, .func (.func 104) #[] #[]] w (IxPost (T.any dupL) w) := by
  obtain ⟨a, c, rfl, hcells⟩ := h
  have HM := Lib.hid hcells
  have HS := Lib.hid hl2
  obtain ⟨n, hn⟩ : ∃ n, T.length = n := ⟨_, rfl⟩
  have HL := Lib.hid hn
  have HY := Lib.hid (any_at (l := T) (q := dupL))
  have HN := Lib.hid (any_no (l := T) (q := dupL))
  obtain ⟨R, hR⟩ : ∃ R, T.any dupL = R := ⟨_, rfl⟩
  rw [hR] at HY HN ⊢
  rw [hn] at hl ⊢
  clear hcells hn hR hl2
  go_enter Tryz.func139, Tryz.ntmps139
  go_wp2
  go_loopw [8] (fun v wr => ∃ k : Nat, k ≤ n ∧ v = .int .i64 (k : Nat) ∧ Below w.heap.size w wr ∧ ∀ j (hj : j < T.length), j < k → dupL T[j] = false) (fun v _ => n - (intOf v).toNat)
  case atStart => exact ⟨0, by omega, rfl, Below.refl _ _, fun j _ h => by omega⟩
  case round =>
    obtain ⟨k, hk, rfl, hb, hall⟩ := hrel
    have hsr := hb.size
    by_cases hlt : k < n
    · have hkl : (k : Int) < (n : Int) := by omega
      have hkm : k < T.length := by rw [HL.out]; exact hlt
      obtain ⟨g, o, vl, rfl, hg, e0w, tx⟩ := HM.out k hkm
      have e0 := (hb.cell (p := ⟨g, _, none⟩) hg).trans e0w
      have hsk := HS.out _ (List.getElem_mem hkm)
      have HF := Lib.hid (hasTwice_any T[k] vl wr (txR_below tx hb) hsk.1 hsk.2)
      obtain ⟨va, vc, rfl, _⟩ := tx
      obtain ⟨bq, hbq⟩ : ∃ b, dupL T[k] = b := ⟨_, rfl⟩
      have HYk := Lib.hid (fun hx => HY.out k hkm (by rw [hbq]; exact hx))
      have HA := Lib.hid (fun (hx : bq = false) j (hj : j < T.length) (hjk : j < k + 1) => (show dupL T[j] = false by
        by_cases hjj : j = k
        · subst hjj; rw [hbq]; exact hx
        · exact hall j hj (by omega)))
      rw [hbq] at HF
      obtain ⟨m, hm⟩ : ∃ m, T[k].length = m := ⟨_, rfl⟩
      rw [hm] at e0 HF
      have HB := Lib.hid hb
      clear hb hall e0w hbq hsk hm
      go_wp2_with fail
      refine HF.out.mono ?_
      rintro en w5 ⟨rfl, hb5⟩
      have HB5 := Lib.hid (HB.out.trans (hb5.mono hsr))
      clear hb5 e0
      cases bq
      · have H := Lib.hid (HA.out rfl)
        go_wp2
        exact ⟨⟨k + 1, by omega, by go_num, HB5.out, H.out⟩, by simp [intOf]; omega⟩
      · have H := Lib.hid (HYk.out rfl)
        go_wp2
        go_ret
        exact ⟨_, rfl, by rw [H.out]; simp, HB5.out⟩
    · obtain rfl : k = n := by omega
      have H := Lib.hid (HN.out (fun j hj => hall j hj (by rw [← HL.out]; exact hj)))
      have HB := Lib.hid hb
      clear hb hall
      go_wp2
      go_ret
      exact ⟨_, rfl, by rw [H.out]; rfl, HB.out⟩
set_option maxHeartbeats 400000 in
theorem cnG_any (T : List (List (List UInt8))) (tv : Value) (w : World) (h : GrAt w tv T) (hl : T.length ≤ 1000000) (hl2 : ∀ l ∈ T, l.length ≤ 1000000 ∧ ∀ s ∈ l, s.length ≤ 140737488355328) :
    Calls Tryz.prog 103 #[tv, .func (.func 104) #[] #[]] w (BB (T.any dupL) w) := by
  have HC := Lib.hid (cnGi_any T tv w h hl hl2)
  obtain ⟨a, c, rfl, _⟩ := h
  obtain ⟨R, hR⟩ : ∃ R, T.any dupL = R := ⟨_, rfl⟩
  rw [hR] at HC ⊢
  clear hR hl2
  go_enter Tryz.func103, Tryz.ntmps103
  go_wp2_with fail
  refine HC.out.mono ?_
  rintro en w1 ⟨n, rfl, hn, hb⟩
  have H := Lib.hid hn
  clear hn
  go_wp2
  go_ret
  exact bB_mk H.out.symm hb
set_option maxHeartbeats 1600000 in
set_option maxRecDepth 100000 in
theorem cnAi_any (T : List Atr) (tv : Value) (w : World) (h : AtAt w tv T) (hl : T.length ≤ 1000000) :
    Calls Tryz.prog 137 #[tv, .func (.func 100) #[] #[]] w (IxPost (T.any fun a => a.2.length == 0) w) := by
  obtain ⟨a, c, rfl, hcells⟩ := h
  have HM := Lib.hid hcells
  obtain ⟨n, hn⟩ : ∃ n, T.length = n := ⟨_, rfl⟩
  have HL := Lib.hid hn
  have HY := Lib.hid (any_at (l := T) (q := fun a => a.2.length == 0))
  have HN := Lib.hid (any_no (l := T) (q := fun a => a.2.length == 0))
  obtain ⟨R, hR⟩ : ∃ R, (T.any fun a => a.2.length == 0) = R := ⟨_, rfl⟩
  rw [hR] at HY HN ⊢
  rw [hn] at hl ⊢
  clear hcells hn hR
  go_enter Tryz.func137, Tryz.ntmps137
  go_wp2
  go_loopw [8] (fun v wr => ∃ k : Nat, k ≤ n ∧ v = .int .i64 (k : Nat) ∧ Below w.heap.size w wr ∧ ∀ j (hj : j < T.length), j < k → (T[j].2.length == 0) = false) (fun v _ => n - (intOf v).toNat)
  case atStart => exact ⟨0, by omega, rfl, Below.refl _ _, fun j _ h => by omega⟩
  case round =>
    obtain ⟨k, hk, rfl, hb, hall⟩ := hrel
    have hsr := hb.size
    by_cases hlt : k < n
    · have hkl : (k : Int) < (n : Int) := by omega
      have hkm : k < T.length := by rw [HL.out]; exact hlt
      obtain ⟨g, o, vl, rfl, hg, e0w, e1w, tx⟩ := HM.out k hkm
      have e0 := (hb.cell (p := ⟨g, _, none⟩) hg).trans e0w
      have e1 := (hb.cell (p := ⟨g, _, none⟩) hg).trans e1w
      obtain ⟨va, vc, rfl, _⟩ := tx
      obtain ⟨bq, hbq⟩ : ∃ b, (T[k].2.length == 0) = b := ⟨_, rfl⟩
      have HYk := Lib.hid (fun hx => HY.out k hkm (by rw [hbq]; exact hx))
      have HA := Lib.hid (fun (hx : bq = false) j (hj : j < T.length) (hjk : j < k + 1) => (show (T[j].2.length == 0) = false by
        by_cases hjj : j = k
        · subst hjj; rw [hbq]; exact hx
        · exact hall j hj (by omega)))
      obtain ⟨nm, hnm⟩ : ∃ x, T[k].1 = x := ⟨_, rfl⟩
      obtain ⟨m, hm⟩ : ∃ m, T[k].2.length = m := ⟨_, rfl⟩
      rw [hnm] at e0
      rw [hm] at e1 hbq
      have hF := snp4_any ⟨nm.toArray⟩ va m vc wr
      rw [hbq] at hF
      have HF := Lib.hid hF
      have HB := Lib.hid hb
      clear hb hall e0w e1w hbq hm hF hnm
      go_wp2_with fail
      refine HF.out.mono ?_
      rintro en w5 ⟨rfl, hb5⟩
      have HB5 := Lib.hid (HB.out.trans (hb5.mono hsr))
      clear hb5 e0 e1
      cases bq
      · have H := Lib.hid (HA.out rfl)
        go_wp2
        exact ⟨⟨k + 1, by omega, by go_num, HB5.out, H.out⟩, by simp [intOf]; omega⟩
      · have H := Lib.hid (HYk.out rfl)
        go_wp2
        go_ret
        exact ⟨_, rfl, by rw [H.out]; simp, HB5.out⟩
    · obtain rfl : k = n := by omega
      have H := Lib.hid (HN.out (fun j hj => hall j hj (by rw [← HL.out]; exact hj)))
      have HB := Lib.hid hb
      clear hb hall
      go_wp2
      go_ret
      exact ⟨_, rfl, by rw [H.out]; rfl, HB.out⟩
set_option maxHeartbeats 400000 in
theorem cnA_any (T : List Atr) (tv : Value) (w : World) (h : AtAt w tv T) (hl : T.length ≤ 1000000) :
    Calls Tryz.prog 99 #[tv, .func (.func 100) #[] #[]] w (BB (T.any fun a => a.2.length == 0) w) := by
  have HC := Lib.hid (cnAi_any T tv w h hl)
  obtain ⟨a, c, rfl, _⟩ := h
  obtain ⟨R, hR⟩ : ∃ R, (T.any fun a => a.2.length == 0) = R := ⟨_, rfl⟩
  rw [hR] at HC ⊢
  clear hR
  go_enter Tryz.func99, Tryz.ntmps99
  go_wp2_with fail
  refine HC.out.mono ?_
  rintro en w1 ⟨n, rfl, hn, hb⟩
  have H := Lib.hid hn
  clear hn
  go_wp2
  go_ret
  exact bB_mk H.out.symm hb
def tmB (TL : List Ty) (G : List (List (List UInt8))) : Bool := (List.zipWith (fun t g => t.2.2 && decide (1 < g.length)) TL G).any id
theorem tm_at {TL : List Ty} {G : List (List (List UInt8))} (k : Nat) (h1 : k < TL.length) (h2 : k < G.length) (h : (TL[k].2.2 && decide (1 < G[k].length)) = true) : tmB TL G = true := by
  unfold tmB
  rw [List.any_eq_true]
  exact ⟨_, List.mem_iff_getElem.2 ⟨k, by simp; omega, rfl⟩, by simpa using h⟩
theorem tm_no {TL : List Ty} {G : List (List (List UInt8))} (h : ∀ k (h1 : k < TL.length) (h2 : k < G.length), (TL[k].2.2 && decide (1 < G[k].length)) = false) : tmB TL G = false := by
  unfold tmB
  rw [List.any_eq_false]
  intro x hx
  obtain ⟨k, hk, rfl⟩ := List.getElem_of_mem hx
  have := h k (by simp at hk; omega) (by simp at hk; omega)
  simp only [List.getElem_zipWith, id]
  rw [this]; simp
set_option maxHeartbeats 1600000 in
set_option maxRecDepth 100000 in
theorem tooMany_any (TL : List Ty) (G : List (List (List UInt8))) (tv gv : Value) (w : World) (hT : TyAt w tv TL) (hG : GrAt w gv G) (hl2 : TL.length = G.length) (hl : G.length ≤ 1000000) :
    Calls Tryz.prog 105 #[tv, gv] w (BB (tmB TL G) w) := by
  obtain ⟨ta, tc, rfl, htc⟩ := hT
  obtain ⟨a, c, rfl, hcells⟩ := hG
  have HT := Lib.hid htc
  have HM := Lib.hid hcells
  have HY := Lib.hid (tm_at (TL := TL) (G := G))
  have HN := Lib.hid (tm_no (TL := TL) (G := G))
  obtain ⟨R, hR⟩ : ∃ R, tmB TL G = R := ⟨_, rfl⟩
  rw [hR] at HY HN ⊢
  obtain ⟨n, hn⟩ : ∃ n, G.length = n := ⟨_, rfl⟩
  have hnT : TL.length = n := hl2.trans hn
  have HL := Lib.hid (And.intro hn hnT)
  rw [hn] at hl ⊢
  rw [hnT]
  clear htc hcells hn hnT hR hl2
  go_enter Tryz.func105, Tryz.ntmps105
  go_wp2
  go_loopw [9] (fun v wr => ∃ k : Nat, k ≤ n ∧ v = .int .i64 (k : Nat) ∧ Below w.heap.size w wr ∧ ∀ j (h1 : j < TL.length) (h2 : j < G.length), j < k → (TL[j].2.2 && decide (1 < G[j].length)) = false) (fun v _ => n - (intOf v).toNat)
  case atStart => exact ⟨0, by omega, rfl, Below.refl _ _, fun j _ _ h => by omega⟩
  case round =>
    obtain ⟨k, hk, rfl, hb, hall⟩ := hrel
    have hsr := hb.size
    by_cases hlt : k < n
    · have hkl : (k : Int) < (n : Int) := by omega
      have hkm : k < G.length := by rw [HL.out.1]; exact hlt
      have hkT : k < TL.length := by rw [HL.out.2]; exact hlt
      obtain ⟨g, o, vl, rfl, hg, e0w, tx⟩ := HM.out k hkm
      obtain ⟨g2, o2, rfl, hg2, t0w, t1w, t2w⟩ := HT.out k hkT
      have e0 := (hb.cell (p := ⟨g, _, none⟩) hg).trans e0w
      have t0 := (hb.cell (p := ⟨g2, _, none⟩) hg2).trans t0w
      have t1 := (hb.cell (p := ⟨g2, _, none⟩) hg2).trans t1w
      have t2 := (hb.cell (p := ⟨g2, _, none⟩) hg2).trans t2w
      obtain ⟨va, vc, rfl, _⟩ := tx
      obtain ⟨bq, hbq⟩ : ∃ b, (TL[k].2.2 && decide (1 < G[k].length)) = b := ⟨_, rfl⟩
      have HYk := Lib.hid (fun hx => HY.out k hkT hkm (by rw [hbq]; exact hx))
      have HA := Lib.hid (fun (hx : bq = false) j (h1 : j < TL.length) (h2 : j < G.length) (hjk : j < k + 1) => (show (TL[j].2.2 && decide (1 < G[j].length)) = false by
        by_cases hjj : j = k
        · subst hjj; rw [hbq]; exact hx
        · exact hall j h1 h2 (by omega)))
      obtain ⟨nm, hnm⟩ : ∃ x, TL[k].1 = x := ⟨_, rfl⟩
      obtain ⟨rl, hrl⟩ : ∃ x, TL[k].2.1 = x := ⟨_, rfl⟩
      obtain ⟨sg, hsg⟩ : ∃ x, TL[k].2.2 = x := ⟨_, rfl⟩
      obtain ⟨m, hm⟩ : ∃ m, G[k].length = m := ⟨_, rfl⟩
      rw [hnm] at t0
      rw [hrl] at t1
      rw [hsg] at t2 hbq
      rw [hm] at e0 hbq
      have HB := Lib.hid (And.intro hb (hb.alloc hsr (.cells #[.string ⟨nm.toArray⟩, .int .i64 rl, .bool sg] 76)))
      have a0 := (((Below.refl _ wr).alloc (Nat.le_refl _) (.cells #[.string ⟨nm.toArray⟩, .int .i64 rl, .bool sg] 76)).cell (p := ⟨g, o + k, none⟩) (Nat.lt_of_lt_of_le hg hsr)).trans e0
      cases sg
      · have H := Lib.hid (HA.out (by rw [← hbq]; rfl))
        clear hb hall e0w t0w t1w t2w hbq hnm hrl hsg hm
        go_wp2
        exact ⟨⟨k + 1, by omega, by go_num, HB.out.2, H.out⟩, by simp [intOf]; omega⟩
      · by_cases h1m : 1 < m
        · have H := Lib.hid (HYk.out (by rw [← hbq]; simp [h1m]))
          have h1i : (1 : Int) < (m : Int) := by omega
          clear hb hall e0w t0w t1w t2w hbq hnm hrl hsg hm
          go_wp2
          go_ret
          exact bB_mk H.out HB.out.2
        · have H := Lib.hid (HA.out (by rw [← hbq]; simp [h1m]))
          have h1i : (m : Int) ≤ 1 := by omega
          clear hb hall e0w t0w t1w t2w hbq hnm hrl hsg hm
          go_wp2
          exact ⟨⟨k + 1, by omega, by go_num, HB.out.2, H.out⟩, by simp [intOf]; omega⟩
    · obtain rfl : k = n := by omega
      have H := Lib.hid (HN.out (fun j h1 h2 => hall j h1 h2 (by rw [← HL.out.1]; exact h2)))
      have HB := Lib.hid hb
      clear hb hall
      go_wp2
      go_ret
      exact bB_mk H.out HB.out
end Go.Proofs.YtbmnpjkcomcboaaGreatDoor
namespace Go.Proofs.YtbmnpjkcomcboaaGreatDoor
set_option linter.unusedSimpArgs false
set_option linter.unusedVariables false
open Go Go.RowKit Go.Proofs.BerK Go.Proofs.MemK Go.Proofs.UtfK

theorem scC_congr {C : List Cl} {s t : List UInt8} (h : lowL s = lowL t) : scC C s = scC C t := by unfold scC; rw [h]
def ClsR (w : World) (L : List Cl) (Lq : List (List UInt8 × Value × Value)) : Prop :=
  Lq.length = L.length ∧ ∀ i (h1 : i < L.length) (h2 : i < Lq.length), Lq[i].1 = L[i].1 ∧ TxR w Lq[i].2.1 L[i].2.1 ∧ TxR w Lq[i].2.2 L[i].2.2 ∧ SlOk Lq[i].2.1 ∧ SlOk Lq[i].2.2
theorem clsR_nil (w : World) : ClsR w [] [] := ⟨rfl, fun i h => by simp at h⟩
theorem clsR_snoc {w : World} {L : List Cl} {Lq : List (List UInt8 × Value × Value)} (h : ClsR w L Lq) (c : Cl) (mu ma : Value) (h1 : TxR w mu c.2.1) (h2 : TxR w ma c.2.2) (h3 : SlOk mu) (h4 : SlOk ma) : ClsR w (L ++ [c]) (Lq ++ [(c.1, mu, ma)]) := by
  refine ⟨by simp [h.1], fun i i1 i2 => ?_⟩
  by_cases hi : i < L.length
  · rw [List.getElem_append_left hi, List.getElem_append_left (by rw [h.1]; exact hi)]
    exact h.2 i hi _
  · have : i = L.length := by simp at i1; omega
    subst this
    have e : Lq.length = L.length := h.1
    simp only [List.getElem_append_right (Nat.le_refl L.length), Nat.sub_self, List.getElem_cons_zero]
    rw [List.getElem_append_right (by omega)]
    simp [e, h1, h2, h3, h4]
theorem clAt_ownsR {w0 w : World} {B : Nat} {v : Value} {C : List Cl} {L : List (List UInt8 × Value × Value)} (h : w.ownsRow B 79 3 v C.length (clcs L)) (hc : ClsR w0 C L) (hb : Below w0.heap.size w0 w) : ClAt w v C := by
  rcases h.2 with ⟨rfl, h0⟩ | ⟨g, cap, cur, rfl, _, hg, _⟩
  · exact ⟨none, 0, by rw [h0], fun i hi => by omega⟩
  · refine ⟨_, cap, rfl, fun i hi => ?_⟩
    have hl : i < L.length := by rw [hc.1]; exact hi
    obtain ⟨h0, t1, t2, s1, s2⟩ := hc.2 i hi hl
    obtain ⟨a1, a2, a3⟩ := clcs_at L i hl
    refine ⟨g, 0, L[i].2.1, L[i].2.2, rfl, (Array.getElem?_eq_some_iff.1 hg).1, ?_⟩
    rw [Nat.zero_add]
    exact ⟨(h.cellAt _ (by omega)).trans (by rw [a1, h0]), (h.cellAt _ (by omega)).trans a2, (h.cellAt _ (by omega)).trans a3, txR_below t1 hb, txR_below t2 hb, s1, s2⟩
def ofOk (C : List Cl) (vs : List (List UInt8)) : Bool := vs.all fun s => (scC C s).isSome
def OfIs (C : List Cl) (vs : List (List UInt8)) (L : List Cl) : Prop := ∀ c, c ∈ L ↔ ∃ s ∈ vs, scC C s = some c
def OfPost (C : List Cl) (vs : List (List UInt8)) (w : World) (en : Ending) (w' : World) : Prop :=
  (ofOk C vs = false → en = .returned (.tuple #[.slice none 0 0, .bool false])) ∧ (ofOk C vs = true → ∃ v L, en = .returned (.tuple #[v, .bool true]) ∧ ClAt w' v L ∧ OfIs C vs L ∧ L.length ≤ vs.length) ∧ Below w.heap.size w w'
theorem ofPost_bad {C : List Cl} {vs : List (List UInt8)} {w w' : World} (h : ofOk C vs = false) (hb : Below w.heap.size w w') : OfPost C vs w (.returned (.tuple #[.slice none 0 0, .bool false])) w' :=
  ⟨fun _ => rfl, (fun h2 => by rw [h] at h2; cases h2), hb⟩
theorem ofPost_ok {C : List Cl} {vs : List (List UInt8)} {w w' : World} {v : Value} {L : List Cl} (h : ofOk C vs = true) (hc : ClAt w' v L) (hi : OfIs C vs L) (hl : L.length ≤ vs.length) (hb : Below w.heap.size w w') : OfPost C vs w (.returned (.tuple #[v, .bool true])) w' :=
  ⟨(fun h2 => by rw [h] at h2; cases h2), fun _ => ⟨v, L, rfl, hc, hi, hl⟩, hb⟩
theorem of_bad {C : List Cl} {vs : List (List UInt8)} (k : Nat) (hk : k < vs.length) (h : scC C vs[k] = none) : ofOk C vs = false := by
  unfold ofOk
  rw [List.all_eq_false]
  exact ⟨vs[k], List.getElem_mem hk, by rw [h]; simp⟩
theorem of_good {C : List Cl} {vs : List (List UInt8)} (h : ∀ k (hk : k < vs.length), (scC C vs[k]).isSome = true) : ofOk C vs = true := by
  unfold ofOk
  rw [List.all_eq_true]
  intro x hx
  obtain ⟨j, hj, rfl⟩ := List.getElem_of_mem hx
  exact h j hj
theorem ofIs_hit {C : List Cl} {vs : List (List UInt8)} {L : List Cl} {k : Nat} (hk : k < vs.length) (h : OfIs C (vs.take k) L) {c : Cl} (hc : scC C vs[k] = some c) {i : Nat} (hi : ixL (L.map (·.1)) c.1 = some i) : OfIs C (vs.take (k + 1)) L := by
  obtain ⟨hil, hie⟩ := ix_some hi
  have hil' : i < L.length := by simpa using hil
  have hie' : L[i].1 = c.1 := by simpa using hie
  obtain ⟨s, hs, hsc⟩ := (h L[i]).1 (List.getElem_mem hil')
  have h1 := scC_name hsc
  have h2 := scC_name hc
  have e : scC C s = scC C vs[k] := scC_congr (by rw [← h1, hie', h2])
  have hcL : L[i] = c := by rw [hsc, hc] at e; injection e
  intro d
  rw [List.take_succ_eq_append_getElem hk]
  constructor
  · intro hd
    obtain ⟨s, hs, hsc⟩ := (h d).1 hd
    exact ⟨s, List.mem_append_left _ hs, hsc⟩
  · rintro ⟨s, hs, hsc⟩
    rcases List.mem_append.1 hs with hs | hs
    · exact (h d).2 ⟨s, hs, hsc⟩
    · rw [List.mem_singleton] at hs
      subst hs
      rw [hc] at hsc
      injection hsc with hsc
      subst hsc
      rw [← hcL]
      exact List.getElem_mem hil'
theorem ofIs_new {C : List Cl} {vs : List (List UInt8)} {L : List Cl} {k : Nat} (hk : k < vs.length) (h : OfIs C (vs.take k) L) {c : Cl} (hc : scC C vs[k] = some c) : OfIs C (vs.take (k + 1)) (L ++ [c]) := by
  intro d
  rw [List.take_succ_eq_append_getElem hk, List.mem_append, List.mem_singleton, h d]
  constructor
  · rintro (⟨s, hs, hsc⟩ | rfl)
    · exact ⟨s, List.mem_append_left _ hs, hsc⟩
    · exact ⟨_, List.mem_append_right _ (List.mem_singleton.2 rfl), hc⟩
  · rintro ⟨s, hs, hsc⟩
    rcases List.mem_append.1 hs with hs | hs
    · exact .inl ⟨s, hs, hsc⟩
    · rw [List.mem_singleton] at hs
      subst hs
      rw [hc] at hsc
      injection hsc with hsc
      exact .inr hsc.symm
set_option maxHeartbeats 6400000 in
set_option maxRecDepth 100000 in
theorem of_any (g : Nat) (T : List Ty) (C : List Cl) (vs : List (List UInt8)) (v : Value) (w : World) (h : ScAt w g T C) (hlow : LowC C) (hlen : C.length ≤ 1024) (ht : TxR w v vs) (hl : vs.length ≤ 1000000) (hs : ∀ s ∈ vs, s.length ≤ 140737488355328) :
    Calls Tryz.prog 141 #[.pointer (some ⟨g, 2, none⟩), v] w (OfPost C vs w) := by
  have hgl := scAt_lt h
  have HP := Lib.hid (fun w' (hb : Below w.heap.size w w') s (hs : s.length ≤ 140737488355328) => (show Calls Tryz.prog 85 #[.pointer (some ⟨g, 2, none⟩), .string ⟨s.toArray⟩] w' (PlPost (ixL (C.map (·.1)) s) w') by
    obtain ⟨m1, a1, n1, c1, m2, a2, n2, c2, h1, _, _, h2, _⟩ := scAt_below h hb
    exact place_any g 2 m2 _ s w' (obj4 h1).2.2.1 h2 hs))
  have HCl := Lib.hid (show ∃ a1 c1, w.cell? ⟨g, 3, none⟩ = some (.slice a1 C.length c1) ∧ ∀ i (hi : i < C.length), ∃ g o mu ma, a1 = some ⟨g, o, none⟩ ∧ g < w.heap.size ∧ w.cell? ⟨g, o + i * 3, none⟩ = some (.string ⟨C[i].1.toArray⟩) ∧ w.cell? ⟨g, o + i * 3 + 1, none⟩ = some mu ∧ w.cell? ⟨g, o + i * 3 + 2, none⟩ = some ma ∧ TxR w mu C[i].2.1 ∧ TxR w ma C[i].2.2 ∧ SlOk mu ∧ SlOk ma by
    obtain ⟨m1, a1, n1, c1, m2, a2, n2, c2, h1, _, _, _, ⟨a, c, e, h3⟩⟩ := h
    injection e with e1 e2 e3
    subst e1 e2 e3
    exact ⟨_, _, (obj4 h1).2.2.2, h3⟩)
  obtain ⟨a1, c1, p3w, hcls⟩ := HCl.out
  have HCs := Lib.hid hcls
  have HP3 := Lib.hid p3w
  clear HCl hcls p3w
  obtain ⟨a, c, rfl, hcells⟩ := ht
  have HM := Lib.hid hcells
  have HS := Lib.hid hs
  have HLow := Lib.hid (fun s => scC_ixl hlow s)
  obtain ⟨n, hn⟩ : ∃ n, vs.length = n := ⟨_, rfl⟩
  have HL := Lib.hid hn
  obtain ⟨nC, hnC⟩ : ∃ n, C.length = n := ⟨_, rfl⟩
  have HLC := Lib.hid hnC
  rw [hn] at hl ⊢
  rw [hnC] at HP3 hlen
  have hb1 : Below w.heap.size w (w.alloc (.cells #[.map none] 103)) := (Below.refl _ w).alloc (Nat.le_refl _) _
  have x0 : (w.alloc (.cells #[.map none] 103)).heap[w.heap.size]? = some (.cells #[.map none] 103 (0, 0)) := heap_alloc_new w _
  obtain ⟨W1, hW1⟩ : ∃ W1, w.alloc (.cells #[.map none] 103) = W1 := ⟨_, rfl⟩
  rw [hW1] at hb1 x0
  have HX := Lib.hid (And.intro hb1 x0)
  have HW1 := Lib.hid hW1
  clear hcells hs hn hnC h hlow hW1 hb1 x0
  go_enter Tryz.func141, Tryz.ntmps141
  go_wp2
  rw [HW1.out]
  go_loopw [7, 15] (fun s7 v wr => ∃ (k : Nat) (L : List Cl) (Lq : List (List UInt8 × Value × Value)) (mv : Value) (ra : Option Addr) (rc : Nat), k ≤ n ∧ v = .int .i64 (k : Nat) ∧ s7 = .slice ra L.length rc ∧ wr.heap[w.heap.size]? = some (.cells #[mv] 103 (0, 0)) ∧ NmAt wr mv (L.map (·.1)) ∧ (∀ b, mv = .map (some b) → w.heap.size < b) ∧
      wr.ownsRow (w.heap.size + 1) 79 3 (.slice ra L.length rc) L.length (clcs Lq) ∧ ClsR w L Lq ∧ OfIs C (vs.take k) L ∧ L.length ≤ k ∧ Below w.heap.size w wr ∧ ∀ j (hj : j < vs.length), j < k → (scC C vs[j]).isSome = true) (fun _ v _ => n - (intOf v).toNat)
  case atStart => exact ⟨0, [], [], .map none, none, 0, by omega, rfl, rfl, HX.out.2, nmAt_nil _, fun b h => (by cases h), ⟨rfl, .inl ⟨rfl, rfl⟩⟩, clsR_nil _, fun c => by simp, by simp, HX.out.1, fun j _ h => by omega⟩
  case round =>
    obtain ⟨k, L, Lq, mv, ra, rc, hk, rfl, rfl, hblk, hnm, hmb, hrow, hcl, hof, hLk, hb, hall⟩ := hrel
    have hsr := hb.size
    by_cases hlt : k < n
    · have hkl : (k : Int) < (n : Int) := by omega
      have hkm : k < vs.length := by rw [HL.out]; exact hlt
      obtain ⟨g1, o1, rfl, hg1, e0w⟩ := HM.out k hkm
      have e0 := (hb.cell (p := ⟨g1, _, none⟩) hg1).trans e0w
      have hsk := HS.out _ (List.getElem_mem hkm)
      have hzr : w.heap.size < wr.heap.size := obj_lt hblk
      have hix := HLow.out vs[k]
      have hbad := of_bad (C := C) k hkm
      have hhit := fun c hc i hi => ofIs_hit (c := c) hkm hof hc (i := i) hi
      have hnew := fun c hc => ofIs_new (c := c) hkm hof hc
      have hallk : (scC C vs[k]).isSome = true → ∀ j (hj : j < vs.length), j < k + 1 → (scC C vs[j]).isSome = true := by
        intro hx j hj hjk
        by_cases e : j = k
        · subst e; exact hx
        · exact hall j hj (by omega)
      obtain ⟨s, hsk2⟩ : ∃ x, vs[k] = x := ⟨_, rfl⟩
      rw [hsk2] at e0 hsk hix hbad hhit hnew hallk
      have HLo := Lib.hid (fun w => show Calls Tryz.prog 79 #[.string ⟨s.toArray⟩] w (StrPost (lowL s) w) from lower_any ⟨s.toArray⟩ w)
      have hll : (lowL s).length ≤ 140737488355328 := by simpa [lowL] using hsk
      obtain ⟨LS, hLS⟩ : ∃ x, lowL s = x := ⟨_, rfl⟩
      rw [hLS] at HLo hix hll
      have HI := Lib.hid (And.intro hblk (And.intro hnm (And.intro hmb (And.intro hrow (And.intro hcl (And.intro hof (And.intro hb hall)))))))
      have HJ := Lib.hid (And.intro hix (And.intro hbad (And.intro hhit (And.intro hnew (And.intro hallk hll)))))
      clear hblk hnm hmb hrow hcl hof hb hall hix hbad hhit hnew hallk hsk hsk2 e0w
      go_wp2_with fail
      refine (HLo.out _).mono ?_
      rintro en w5 ⟨rfl, hb5⟩
      have hbw5 := HI.out.2.2.2.2.2.2.1.trans (hb5.mono hsr)
      have HPk := Lib.hid (HP.out w5 hbw5 LS HJ.out.2.2.2.2.2)
      have HB5 := Lib.hid (And.intro hb5 hbw5)
      have hs5 := hb5.size
      clear hb5 hbw5 e0
      cases hq : ixL (C.map (·.1)) LS with
      | none =>
        rw [hq] at HPk
        have HPk2 := Lib.hid (show Calls Tryz.prog 85 #[.pointer (some ⟨g, 2, none⟩), .string ⟨LS.toArray⟩] w5 (fun en w'' => en = .returned (.tuple #[.int .i64 0, .bool false]) ∧ w5 = w'') from HPk.out)
        have HQ := Lib.hid (HJ.out.2.1 (by rw [HJ.out.1, hq]; rfl))
        clear hq hLS HPk
        go_wp2_with fail
        refine HPk2.out.mono ?_
        rintro en w6 ⟨rfl, rfl⟩
        go_wp2
        go_ret2
        exact ofPost_bad HQ.out HB5.out.2
      | some i =>
        obtain ⟨hi0, hie⟩ := ix_some hq
        have hi : i < C.length := by simpa using hi0
        rw [hq] at HPk
        have HPk2 := Lib.hid (show Calls Tryz.prog 85 #[.pointer (some ⟨g, 2, none⟩), .string ⟨LS.toArray⟩] w5 (fun en w'' => en = .returned (.tuple #[.int .i64 (i : Nat), .bool true]) ∧ w5 = w'') from HPk.out)
        have hsc : scC C s = some C[i] := by rw [HJ.out.1, hq]; exact getD_bind C i hi
        have hCn : C[i].1 = LS := by simpa using hie
        have HSC := Lib.hid (And.intro hsc hCn)
        have hi' : (i : Int) < (nC : Int) := by rw [← HLC.out]; omega
        have hi'' : (0 : Int) ≤ (i : Int) := by omega
        clear hq hLS HPk hie hi0 hsc hCn
        go_wp2_with fail
        refine HPk2.out.mono ?_
        rintro en w6 ⟨rfl, rfl⟩
        go_wp2_with fail
        refine (add_any w.heap.size 0 #[mv] 103 mv (L.map (·.1)) LS w5 (obj_below HI.out.1 HB5.out.1 hzr) rfl (nmAt_below HI.out.2.1 HB5.out.1) (by simp; omega) HJ.out.2.2.2.2.2).mono ?_
        rintro en w8 ⟨hhit, hnew⟩
        have HAd := Lib.hid (And.intro hhit hnew)
        clear hhit hnew
        have hallk := HJ.out.2.2.2.2.1 (by rw [HSC.out.1]; rfl)
        have HAk := Lib.hid hallk
        clear hallk
        cases hq : ixL (L.map (·.1)) LS with
        | some q =>
          obtain ⟨rfl, rfl⟩ := HAd.out.1 q hq
          have HQ := Lib.hid (HJ.out.2.2.1 _ HSC.out.1 q (by rw [HSC.out.2]; exact hq))
          clear hq
          go_wp2
          exact ⟨⟨k + 1, L, Lq, mv, ra, rc, by omega, by go_num, rfl, obj_below HI.out.1 HB5.out.1 hzr, nmAt_below HI.out.2.1 HB5.out.1, HI.out.2.2.1, ownsRow_below HI.out.2.2.2.1 HB5.out.1, HI.out.2.2.2.2.1, HQ.out, by omega, HB5.out.2, HAk.out⟩, by simp [intOf]; omega⟩
        | none =>
          obtain ⟨b, rfl, g8, nm8, hmb8, ch8⟩ := HAd.out.2 hq
          have g8' : w8.heap[w.heap.size]? = some (.cells #[.map (some b)] 103 (0, 0)) := g8
          have hchB : Below w.heap.size w5 w8 := ch8.toBelow (by omega) (fun j _ hj => by
            rcases hj with hj | hj
            · omega
            · have := HI.out.2.2.1 _ hj; omega)
          have hbw8 : Below w.heap.size w w8 := HB5.out.2.trans hchB
          have row5 := ownsRow_below HI.out.2.2.2.1 HB5.out.1
          have nm5 := nmAt_below HI.out.2.1 HB5.out.1
          have row8 := ownsRow_chg row5 ch8 (fun j hj => by
            rintro (h | h)
            · have := (row5.lt j hj).1; omega
            · subst h
              exact row_ne_map row5 nm5 j hj rfl)
          have hmb9 : w.heap.size < b := by
            rcases hmb8 with h | ⟨_, h⟩
            · exact HI.out.2.2.1 _ h
            · omega
          obtain ⟨g2, o2, mu, ma, ea, hg2, c0w, c1w, c2w, tu, ta, su, sa⟩ := HCs.out i hi
          subst ea
          obtain ⟨a3, n3, c3, rfl⟩ := slOk_form su
          obtain ⟨a4, n4, c4, rfl⟩ := slOk_form sa
          have p3 := (hbw8.cell (p := ⟨g, 3, none⟩) hgl).trans HP3.out
          have e0 := (hbw8.cell (p := ⟨g2, _, none⟩) hg2).trans c0w
          have e1 := (hbw8.cell (p := ⟨g2, _, none⟩) hg2).trans c1w
          have e2 := (hbw8.cell (p := ⟨g2, _, none⟩) hg2).trans c2w
          have hcl2 := clsR_snoc HI.out.2.2.2.2.1 C[i] _ _ tu ta su sa
          have hof2 := HJ.out.2.2.2.1 _ HSC.out.1
          obtain ⟨nm, hnmc⟩ : ∃ x, C[i].1 = x := ⟨_, rfl⟩
          rw [hnmc] at e0 hcl2
          have hLn : (L ++ [C[i]]).map (·.1) = L.map (·.1) ++ [LS] := by rw [List.map_append, ← HSC.out.2]; rfl
          obtain ⟨cc, hcc⟩ : ∃ x, C[i] = x := ⟨_, rfl⟩
          rw [hcc] at hcl2 hof2 hLn
          have hs8 : w.heap.size + 1 ≤ w8.heap.size := by have := obj_lt g8'; omega
          have H8 := Lib.hid (And.intro g8' (And.intro nm8 (And.intro row8 (And.intro hbw8 (And.intro hmb9 (And.intro hcl2 (And.intro hof2 hLn)))))))
          clear g8 g8' nm8 hmb8 ch8 hchB hbw8 row5 nm5 row8 hmb9 hcl2 hof2 hLn hq c0w c1w c2w tu ta su sa hnmc hcc
          go_wp2_with (at_builtin; refine wpList_pushc rfl (.tmp 33) (.tmp 41) 29 79 rfl (w.heap.size + 1) 3 64 _ Tryz.sninfo79 Tryz.underlying29 rfl (by decide) [_, _, _] rfl (by intro u hu; simp at hu; rcases hu with rfl | rfl | rfl <;> rfl) (.slice ra L.length rc) L.length (clcs Lq) rfl _ rfl rfl H8.out.2.2.1 (by unfold maxLen; omega) (by omega) hs8 ?_; intro v' w' h1 h2 h3; obtain ⟨na, nc, rfl⟩ := ownsRow_slice h1)
          have hrb : ∀ j, (Value.slice ra L.length rc).ownBlock = some j → w.heap.size < j := fun j hj => by have := (H8.out.2.2.1.lt j hj).1; omega
          have g9 := obj_chg H8.out.1 h2 (fun e => by have := hrb _ e.symm; omega)
          have nm9 := nmAt_chg H8.out.2.1 h2 (fun j hj e => by injection hj with hj; injection hj with hj; exact row_ne_map H8.out.2.2.1 H8.out.2.1 j e.symm hj.symm)
          have hbw9 : Below w.heap.size w w' := H8.out.2.2.2.1.trans (h2.toBelow (by omega) (fun j _ hj => by have := hrb _ hj.symm; omega))
          refine ⟨⟨k + 1, L ++ [cc], Lq ++ [(nm, .slice a3 n3 c3, .slice a4 n4 c4)], .map (some b), na, nc, by omega, by go_num, by rw [List.length_append]; rfl, g9, by rw [H8.out.2.2.2.2.2.2.2]; exact nm9, fun j hj => by injection hj with hj; injection hj with hj; rw [← hj]; exact H8.out.2.2.2.2.1, ?_, ?_, H8.out.2.2.2.2.2.2.1, by rw [List.length_append]; show L.length + 1 ≤ _; omega, hbw9, HAk.out⟩, by simp [intOf]; omega⟩
          · rw [clcs_append, List.length_append]
            exact h1
          · exact H8.out.2.2.2.2.2.1
    · obtain rfl : k = n := by omega
      have hvt : vs.take k = vs := List.take_of_length_le (by rw [HL.out]; exact Nat.le_refl _)
      rw [hvt] at hof
      have H := Lib.hid (And.intro (clAt_ownsR hrow hcl hb) (And.intro hof (And.intro hb (of_good (fun j hj => hall j hj (by rw [← HL.out]; exact hj))))))
      clear hblk hnm hmb hrow hcl hof hb hall hvt
      go_wp2
      go_ret2
      exact ofPost_ok H.out.2.2.2 H.out.1 H.out.2.1 (by rw [HL.out]; exact hLk) H.out.2.2.1
end Go.Proofs.YtbmnpjkcomcboaaGreatDoor
namespace Go.Proofs.YtbmnpjkcomcboaaGreatDoor
set_option linter.unusedSimpArgs false
set_option linter.unusedVariables false
open Go Go.RowKit Go.Proofs.BerK Go.Proofs.MemK Go.Proofs.UtfK

def bls (al : List Bool) : List Value := al.map Value.bool
theorem bls_at (al : List Bool) (i : Nat) (h : i < al.length) : (bls al)[i]? = some (.bool al[i]) := by simp [bls, h]
theorem bls_set (al : List Bool) (i : Nat) (b : Bool) : (bls al).set i (.bool b) = bls (al.set i b) := by simp [bls, List.map_set]
set_option maxHeartbeats 1600000 in
set_option maxRecDepth 100000 in
theorem bidx_any (al : List Bool) (g c : Nat) (e : TypeId) (w : World) (h : w.heap[g]? = some (.cells (bls al).toArray e (0, 0))) (hl : al.length ≤ 1000000) :
    Calls Tryz.prog 169 #[.slice (some ⟨g, 0, none⟩) al.length c, .bool false] w (IxP (al.contains false) w) := by
  have HC := Lib.hid h
  obtain ⟨n, hn⟩ : ∃ n, al.length = n := ⟨_, rfl⟩
  have HL := Lib.hid hn
  have HY := Lib.hid (show ∀ i (hi : i < al.length), al[i] = false → al.contains false = true by
    intro i hi h
    rw [List.contains_eq_mem, decide_eq_true_eq, ← h]
    exact List.getElem_mem hi)
  have HN := Lib.hid (show (∀ i (hi : i < al.length), al[i] = true) → al.contains false = false by
    intro h
    rw [List.contains_eq_mem, decide_eq_false_iff_not]
    intro hm
    obtain ⟨i, hi, e⟩ := List.getElem_of_mem hm
    rw [h i hi] at e; cases e)
  obtain ⟨R, hR⟩ : ∃ R, al.contains false = R := ⟨_, rfl⟩
  rw [hR] at HY HN ⊢
  rw [hn] at hl ⊢
  clear hn hR h
  go_enter Tryz.func169, Tryz.ntmps169
  go_wp2
  go_loop [8] (fun v => ∃ k : Nat, k ≤ n ∧ v = .int .i64 (k : Nat) ∧ ∀ j (hj : j < al.length), j < k → al[j] = true) (fun v => n - (intOf v).toNat)
  case atStart => exact ⟨0, by omega, rfl, fun j _ h => by omega⟩
  case round =>
    obtain ⟨k, hk, rfl, hall⟩ := hrel
    by_cases hlt : k < n
    · have hkl : (k : Int) < (n : Int) := by omega
      have hkm : k < al.length := by rw [HL.out]; exact hlt
      have e0 := obj_cell HC.out k _ (by simpa using bls_at al k hkm)
      have HYk := Lib.hid (HY.out k hkm)
      have HA := Lib.hid (fun (hx : al[k] = true) j (hj : j < al.length) (hjk : j < k + 1) => (show al[j] = true by
        by_cases hjj : j = k
        · subst hjj; exact hx
        · exact hall j hj (by omega)))
      obtain ⟨bq, hbq⟩ : ∃ b, al[k] = b := ⟨_, rfl⟩
      rw [hbq] at e0 HYk HA
      clear hall hbq
      cases bq
      · have H := Lib.hid (HYk.out rfl)
        go_wp2
        go_ret
        exact ⟨_, rfl, by rw [H.out]; simp, rfl⟩
      · have H := Lib.hid (HA.out rfl)
        go_wp2
        exact ⟨⟨k + 1, by omega, by go_num, H.out⟩, by simp [intOf]; omega⟩
    · obtain rfl : k = n := by omega
      have H := Lib.hid (HN.out (fun j hj => hall j hj (by rw [← HL.out]; exact hj)))
      clear hall
      go_wp2
      go_ret
      exact ⟨_, rfl, by rw [H.out]; rfl, rfl⟩
set_option maxHeartbeats 400000 in
theorem bcon_any (al : List Bool) (g c : Nat) (e : TypeId) (w : World) (h : w.heap[g]? = some (.cells (bls al).toArray e (0, 0))) (hl : al.length ≤ 1000000) :
    Calls Tryz.prog 142 #[.slice (some ⟨g, 0, none⟩) al.length c, .bool false] w (PureB (al.contains false) w) := by
  have HC := Lib.hid (bidx_any al g c e w h hl)
  obtain ⟨R, hR⟩ : ∃ R, al.contains false = R := ⟨_, rfl⟩
  rw [hR] at HC ⊢
  clear hR h
  go_enter Tryz.func142, Tryz.ntmps142
  go_wp2_with fail
  refine HC.out.mono ?_
  rintro en w1 ⟨n, rfl, hn, rfl⟩
  have H := Lib.hid hn
  clear hn
  go_wp2
  go_ret
  exact pureB_mk H.out.symm
theorem Tryz.sninfo4 : (Tryz.prog.info? 4).map (fun i => (i.zero, i.size, i.bytes)) = some (some (.bool false), 1, 1) := by kernel_rfl
theorem made_bl (n : Nat) (W : World) (hn : n ≤ 1000000) : (Instr.makeSlice 200 (.int .i64 (n : Int)) (.int .i64 (n : Int))).run Tryz.prog W = .ok (.slice (some ⟨W.heap.size, 0, none⟩) n n) (W.alloc (.cells (bls (List.replicate n false)).toArray 4)) := by
  obtain ⟨i0, hi, hz0, hz1, hz2⟩ := info_parts Tryz.sninfo4
  have h := run_make (P := Tryz.prog) W 200 4 i0 (.bool false) Tryz.underlying200 hi hz0 .i64 .i64 (n : Int) (n : Int) (by omega) (by omega) (by rw [hz2]; omega) (by omega)
  have e : madeCells (Value.bool false).cells ((n : Int).toNat * i0.size) = (bls (List.replicate n false)).toArray := by
    apply Array.ext'
    rw [hz1, show (n : Int).toNat * 1 = n by omega]
    refine (toList_madeCells_one _ n).trans ?_
    simp [bls]
  rw [e] at h
  simpa using h
def okA (N : List (List UInt8)) (own : Nat) (S : List (List UInt8)) (al : List Bool) : Prop := al.length = N.length ∧ ∀ i (h1 : i < al.length) (h2 : i < N.length), al[i] = (decide (i = own) || inL S N[i])
theorem inL_app (S T : List (List UInt8)) (x : List UInt8) : inL (S ++ T) x = (inL S x || inL T x) := by unfold inL; rw [List.any_append]
theorem inL_one (m x : List UInt8) : inL [m] x = (m == x) := by simp [inL]
theorem okA_start (N : List (List UInt8)) (own : Nat) (h : own < N.length) : okA N own [] ((List.replicate N.length false).set own true) := by
  refine ⟨by simp, fun i h1 h2 => ?_⟩
  by_cases e : i = own
  · subst e; simp
  · rw [List.getElem_set_ne (fun h => e h.symm)]; simp [e, inL]
theorem okA_hit {N : List (List UInt8)} {own : Nat} {S : List (List UInt8)} {al : List Bool} (hn : N.Nodup) (h : okA N own S al) {m : List UInt8} {i : Nat} (hi : ixL N m = some i) : okA N own (S ++ [m]) (al.set i true) := by
  obtain ⟨hil, hie⟩ := ix_some hi
  refine ⟨by simpa using h.1, fun j h1 h2 => ?_⟩
  rw [inL_app, inL_one]
  by_cases e : j = i
  · subst e
    rw [List.getElem_set_self, hie]; simp
  · rw [List.getElem_set_ne (fun h => e h.symm), h.2 j (by simpa using h1) h2]
    have : (m == N[j]) = false := by
      rw [beq_eq_false_iff_ne]
      intro e2
      rw [← hie] at e2
      exact e ((List.getElem_inj hn).1 e2).symm
    rw [this, Bool.or_false]
theorem okA_miss {N : List (List UInt8)} {own : Nat} {S : List (List UInt8)} {al : List Bool} (h : okA N own S al) {m : List UInt8} (hi : ixL N m = none) : okA N own (S ++ [m]) al := by
  refine ⟨h.1, fun j h1 h2 => ?_⟩
  rw [inL_app, inL_one, h.2 j h1 h2]
  have : (m == N[j]) = false := by
    rw [beq_eq_false_iff_ne]
    intro e2
    exact ix_none hi (e2 ▸ List.getElem_mem h2)
  rw [this, Bool.or_false]
def alS (L : List Cl) : List (List UInt8) := L.flatMap fun c => c.2.1 ++ c.2.2
theorem alS_take (L : List Cl) (k : Nat) (h : k < L.length) : alS (L.take (k + 1)) = alS (L.take k) ++ L[k].2.1 ++ L[k].2.2 := by
  unfold alS
  rw [List.take_succ_eq_append_getElem h, List.flatMap_append]; simp
def fitB (C : List Cl) (N : List (List UInt8)) (A : List Atr) : Bool :=
  match ixL N objL with
  | none => false
  | some own => match A[own]? with
    | none => false
    | some a => ofOk C a.2 && ((a.2.filterMap (scC C)).all fun c => c.2.1.all (inL N)) && (N.all fun x => x == objL || inL (alS (a.2.filterMap (scC C))) x)
theorem fit_none {C : List Cl} {N : List (List UInt8)} {A : List Atr} (h : ixL N objL = none) : fitB C N A = false := by unfold fitB; rw [h]
theorem fit_of {C : List Cl} {N : List (List UInt8)} {A : List Atr} {own : Nat} (h : ixL N objL = some own) (ho : own < A.length) (hf : ofOk C A[own].2 = false) : fitB C N A = false := by
  unfold fitB; rw [h]; simp [ho, hf]
theorem fit_must {C : List Cl} {N : List (List UInt8)} {A : List Atr} {own : Nat} (h : ixL N objL = some own) (ho : own < A.length) {L : List Cl} (hL : OfIs C A[own].2 L) {c : Cl} (hc : c ∈ L) {m : List UInt8} (hm : m ∈ c.2.1) (hx : ixL N m = none) : fitB C N A = false := by
  unfold fitB; rw [h]; simp only [ho, List.getElem?_eq_getElem]
  have : ((A[own].2.filterMap (scC C)).all fun c => c.2.1.all (inL N)) = false := by
    rw [List.all_eq_false]
    obtain ⟨s, hs, hsc⟩ := (hL c).1 hc
    refine ⟨c, List.mem_filterMap.2 ⟨s, hs, hsc⟩, ?_⟩
    rw [Bool.not_eq_true, List.all_eq_false]
    exact ⟨m, hm, by rw [ix_out hx]; simp⟩
  rw [this, Bool.and_false, Bool.false_and]
theorem alS_mem {C : List Cl} {vs : List (List UInt8)} {L : List Cl} (hL : OfIs C vs L) (x : List UInt8) : inL (alS L) x = inL (alS (vs.filterMap (scC C))) x := by
  rw [Bool.eq_iff_iff]
  unfold inL alS
  simp only [List.any_eq_true, List.mem_flatMap, List.mem_filterMap]
  constructor
  · rintro ⟨y, ⟨c, hc, hy⟩, e⟩
    obtain ⟨s, hs, hsc⟩ := (hL c).1 hc
    exact ⟨y, ⟨c, ⟨s, hs, hsc⟩, hy⟩, e⟩
  · rintro ⟨y, ⟨c, ⟨s, hs, hsc⟩, hy⟩, e⟩
    exact ⟨y, ⟨c, (hL c).2 ⟨s, hs, hsc⟩, hy⟩, e⟩
theorem fit_all {C : List Cl} {N : List (List UInt8)} {A : List Atr} {own : Nat} (h : ixL N objL = some own) (ho : own < A.length) (hf : ofOk C A[own].2 = true) {L : List Cl} (hL : OfIs C A[own].2 L) (hm : ∀ c ∈ L, ∀ m ∈ c.2.1, inL N m = true) (hn : N.Nodup) {al : List Bool} (ha : okA N own (alS L) al) : fitB C N A = !al.contains false := by
  obtain ⟨hol, hoe⟩ := ix_some h
  unfold fitB; rw [h]; simp only [ho, List.getElem?_eq_getElem]
  have h1 : ((A[own].2.filterMap (scC C)).all fun c => c.2.1.all (inL N)) = true := by
    rw [List.all_eq_true]
    intro c hc
    obtain ⟨s, hs, hsc⟩ := List.mem_filterMap.1 hc
    rw [List.all_eq_true]
    exact fun m hm' => hm c ((hL c).2 ⟨s, hs, hsc⟩) m hm'
  rw [hf, h1, Bool.true_and, Bool.true_and]
  rw [Bool.eq_iff_iff, List.all_eq_true, Bool.not_eq_true', List.contains_eq_mem, decide_eq_false_iff_not]
  have key : ∀ i (h1 : i < al.length) (h2 : i < N.length), al[i] = (N[i] == objL || inL (alS (A[own].2.filterMap (scC C))) N[i]) := by
    intro i h1 h2
    rw [ha.2 i h1 h2, alS_mem hL]
    congr 1
    by_cases e : i = own
    · subst e; rw [hoe]; simp
    · have : (N[i] == objL) = false := by
        rw [beq_eq_false_iff_ne]
        intro e2
        rw [← hoe] at e2
        exact e ((List.getElem_inj hn).1 e2)
      rw [this]; simp [e]
  constructor
  · intro hx hm
    obtain ⟨i, hi, e⟩ := List.getElem_of_mem hm
    have h2 : i < N.length := by rw [← ha.1]; exact hi
    rw [key i hi h2, hx _ (List.getElem_mem h2)] at e
    cases e
  · intro hx x hm
    obtain ⟨i, hi, rfl⟩ := List.getElem_of_mem hm
    have h2 : i < al.length := by rw [ha.1]; exact hi
    rw [← key i h2 hi]
    cases hq : al[i]
    · exact absurd (hq ▸ List.getElem_mem h2) hx
    · rfl
end Go.Proofs.YtbmnpjkcomcboaaGreatDoor
namespace Go.Proofs.YtbmnpjkcomcboaaGreatDoor
set_option linter.unusedSimpArgs false
set_option linter.unusedVariables false
open Go Go.RowKit Go.Proofs.BerK Go.Proofs.MemK Go.Proofs.UtfK

theorem scC_mem {C : List Cl} {s : List UInt8} {c : Cl} (hlow : LowC C) (h : scC C s = some c) : c ∈ C := by
  unfold scC at h
  obtain ⟨u, hu, rfl⟩ := Option.map_eq_some_iff.1 h
  have := hlow u (List.mem_of_find?_eq_some hu)
  have e : (lowL u.1, u.2.1.map lowL, u.2.2.map lowL) = u := this
  rw [e]
  exact List.mem_of_find?_eq_some hu
set_option maxHeartbeats 12800000 in
set_option maxRecDepth 100000 in
theorem fits_any (g : Nat) (T : List Ty) (C : List Cl) (A : List Atr) (N : List (List UInt8)) (v : Value) (q0 : Option Nat) (w : World) (h : ScAt w g T C) (hlow : LowC C) (hlen : C.length ≤ 1024) (hA : AtAt w v A) (hNm : NmAt w (.map q0) N) (hNl : N.length = A.length) (hnd : N.Nodup)
    (hl : A.length ≤ 1000000) (hv : ∀ a ∈ A, a.2.length ≤ 1000000 ∧ ∀ s ∈ a.2, s.length ≤ 140737488355328) (hlm : ∀ c ∈ C, c.2.1.length ≤ 1000000 ∧ c.2.2.length ≤ 1000000) (hs : ∀ c ∈ C, (∀ s ∈ c.2.1, s.length ≤ 140737488355328) ∧ ∀ s ∈ c.2.2, s.length ≤ 140737488355328) :
    Calls Tryz.prog 106 #[.pointer (some ⟨g, 0, none⟩), v, .agg #[.map q0]] w (BB (fitB C N A) w) := by
  have HFn := Lib.hid (fit_none (C := C) (N := N) (A := A))
  have hgl := scAt_lt h
  have hb1 : Below w.heap.size w (w.alloc (.cells #[.map q0] 103)) := (Below.refl _ w).alloc (Nat.le_refl _) _
  have x0 : (w.alloc (.cells #[.map q0] 103)).heap[w.heap.size]? = some (.cells #[.map q0] 103 (0, 0)) := heap_alloc_new w _
  obtain ⟨W1, hW1⟩ : ∃ W1, w.alloc (.cells #[.map q0] 103) = W1 := ⟨_, rfl⟩
  rw [hW1] at hb1 x0
  have HP := Lib.hid (fun w' (hb : Below W1.heap.size W1 w') s (hs : s.length ≤ 140737488355328) => (show Calls Tryz.prog 85 #[.pointer (some ⟨w.heap.size, 0, none⟩), .string ⟨s.toArray⟩] w' (PlPost (ixL N s) w') from
    place_any w.heap.size 0 (.map q0) N s w' (obj_cell (obj_below x0 hb (obj_lt x0)) 0 _ rfl) (nmAt_below hNm (hb1.trans (hb.mono hb1.size))) hs))
  have HW1 := Lib.hid hW1
  obtain ⟨a, c, rfl, hcells⟩ := hA
  have HM := Lib.hid hcells
  have HV := Lib.hid hv
  have HO := Lib.hid (fun vs vv w' (hb : Below w.heap.size w w') (ht : TxR w' vv vs) (hl : vs.length ≤ 1000000) (hs : ∀ s ∈ vs, s.length ≤ 140737488355328) => of_any g T C vs vv w' (scAt_below h hb) hlow hlen ht hl hs)
  obtain ⟨n, hn⟩ : ∃ n, A.length = n := ⟨_, rfl⟩
  have HL := Lib.hid hn
  have HNl := Lib.hid hNl
  have HNd := Lib.hid hnd
  have HLm := Lib.hid hlm
  have HLs := Lib.hid hs
  have HB1 := Lib.hid hb1
  have hz1 : w.heap.size < W1.heap.size := obj_lt x0
  rw [hn] at hl ⊢
  have hmk := fun W => made_bl n W hl
  cases hq : ixL N objL with
  | none =>
    have HPo := Lib.hid (show Calls Tryz.prog 85 #[.pointer (some ⟨w.heap.size, 0, none⟩), .string ⟨#[111, 98, 106, 101, 99, 116, 99, 108, 97, 115, 115]⟩] W1 (fun en w'' => en = .returned (.tuple #[.int .i64 0, .bool false]) ∧ W1 = w'') from by
      have := HP.out W1 (Below.refl _ _) objL (by decide)
      rw [hq] at this; exact this)
    have HQ := Lib.hid (HFn.out hq)
    clear hq h hNm hcells hv hn hNl hnd hlm hs hb1 x0 hW1 hmk
    go_enter Tryz.func106, Tryz.ntmps106
    go_wp2_with fail
    rw [HW1.out]
    refine HPo.out.mono ?_
    rintro en w2 ⟨rfl, rfl⟩
    go_wp2
    go_ret
    exact bB_mk HQ.out HB1.out
  | some own =>
    have hown := ix_lt hq
    have hownA : own < A.length := by omega
    have hownn : own < n := by omega
    have hoi : (own : Int) < (n : Int) := by omega
    have hoi0 : (0 : Int) ≤ (own : Int) := by omega
    have HPo := Lib.hid (show Calls Tryz.prog 85 #[.pointer (some ⟨w.heap.size, 0, none⟩), .string ⟨#[111, 98, 106, 101, 99, 116, 99, 108, 97, 115, 115]⟩] W1 (fun en w'' => en = .returned (.tuple #[.int .i64 (own : Nat), .bool true]) ∧ W1 = w'') from by
      have := HP.out W1 (Below.refl _ _) objL (by decide)
      rw [hq] at this; exact this)
    obtain ⟨g1, o1, vl, rfl, hg1, e0w, e1w, tvl⟩ := HM.out own hownA
    have hvl := HV.out _ (List.getElem_mem hownA)
    have e1 := (hb1.cell (p := ⟨g1, _, none⟩) hg1).trans e1w
    have HOf := Lib.hid (fun w' (hb : Below W1.heap.size W1 w') => HO.out A[own].2 vl w' (hb1.trans (hb.mono hb1.size)) (txR_below (txR_below tvl hb1) hb) hvl.1 hvl.2)
    obtain ⟨va, vc, rfl, _⟩ := tvl
    obtain ⟨m, hm⟩ : ∃ m, A[own].2.length = m := ⟨_, rfl⟩
    rw [hm] at e1 HOf
    have HFo := Lib.hid (fit_of (C := C) hq hownA)
    have HFm := Lib.hid (fun L hL c hc mm hmm hx => fit_must (C := C) hq hownA (L := L) hL (c := c) hc (m := mm) hmm hx)
    have HFa := Lib.hid (fun hf L hL hm al ha => fit_all (C := C) hq hownA hf (L := L) hL hm hnd (al := al) ha)
    obtain ⟨R, hR⟩ : ∃ R, fitB C N A = R := ⟨_, rfl⟩
    rw [hR] at HFo HFm HFa ⊢
    clear HFn hq h hNm hcells hv hn hNl hnd hlm hs hb1 x0 hW1 e0w e1w hm hR hvl
    have hz1g : g1 < W1.heap.size := by omega
    have HE1 := Lib.hid e1
    cases hf : ofOk C A[own].2 with
    | false =>
      have HOf0 := Lib.hid (fun w' (hb : Below W1.heap.size W1 w') => (HOf.out w' hb).mono (R' := fun en w'' => en = .returned (.tuple #[.slice none 0 0, .bool false]) ∧ Below w'.heap.size w' w'') (fun en w'' h => ⟨h.1 hf, h.2.2⟩))
      have HQ := Lib.hid (HFo.out hf)
      clear hf HOf HFo HFm HFa
      go_enter Tryz.func106, Tryz.ntmps106
      go_wp2_with fail
      rw [HW1.out]
      refine HPo.out.mono ?_
      rintro en w2 ⟨rfl, rfl⟩
      go_wp2
      go_region_held3 (fun w' => w'.cell? ⟨g1, o1 + own * 2 + 1, none⟩ = some (.slice va m vc)) (first | exact f1 | exact e1 | go_keep)
        (first | (go_at_call 141; (with_reducible refine (HOf0.out _ (Below.refl _ W1).drew).mono ?_); rintro en w5 ⟨rfl, hb5⟩; have hbX : Below W1.heap.size W1 w5 := (Below.refl _ W1).drew.trans hb5; have f1 := (hbX.cell (p := ⟨g1, _, none⟩) hz1g).trans HE1.out))
      have HB5 := Lib.hid (HB1.out.trans (hbX.mono HB1.out.size))
      clear hb5 hbX f1 e1
      go_wp2
      go_ret
      exact bB_mk HQ.out HB5.out
    | true =>
      have HOf1 := Lib.hid (fun w' (hb : Below W1.heap.size W1 w') => (HOf.out w' hb).mono (R' := fun en w'' => ∃ ra rc L, en = .returned (.tuple #[.slice ra (List.length L) rc, .bool true]) ∧ ClAt w'' (.slice ra L.length rc) L ∧ OfIs C A[own].2 L ∧ L.length ≤ A[own].2.length ∧ Below w'.heap.size w' w'') (fun en w'' h => by
        obtain ⟨v, L, e, hc, h3, h4⟩ := h.2.1 hf
        obtain ⟨ra, rc, rfl, hx⟩ := id hc
        exact ⟨ra, rc, L, e, hc, h3, h4, h.2.2⟩))
      have HFa2 := Lib.hid (fun L hL hm al ha => HFa.out hf L hL hm al ha)
      have hvln : A[own].2.length ≤ 1000000 := (HV.out _ (List.getElem_mem hownA)).1
      clear hf HOf HFo HFa
      go_enter Tryz.func106, Tryz.ntmps106
      go_wp2_with fail
      rw [HW1.out]
      refine HPo.out.mono ?_
      rintro en w2 ⟨rfl, rfl⟩
      go_wp2
      go_region_held3 (fun w' => w'.cell? ⟨g1, o1 + own * 2 + 1, none⟩ = some (.slice va m vc)) (first | exact f1 | exact e1 | go_keep)
        (first | (go_at_call 141; (with_reducible refine (HOf1.out _ (Below.refl _ W1).drew).mono ?_); rintro en w5 ⟨ra, rc, L, rfl, hcl, hof, hLl, hb5⟩; have hbX : Below W1.heap.size W1 w5 := (Below.refl _ W1).drew.trans hb5; have f1 := (hbX.cell (p := ⟨g1, _, none⟩) hz1g).trans HE1.out))
      have hb5w : Below w.heap.size w w5 := HB1.out.trans (hbX.mono HB1.out.size)
      have hL1 : L.length ≤ 1000000 := by omega
      obtain ⟨B, hB⟩ : ∃ B, w5.heap.size = B := ⟨_, rfl⟩
      obtain ⟨M, hM⟩ : ∃ M, (bls (List.replicate n false)).toArray = M := ⟨_, rfl⟩
      rw [hM] at hmk
      have hMo : M[own]? = some (.bool false) := by rw [← hM]; simp [bls, hownn]
      obtain ⟨W7, hW7⟩ : ∃ W7, w5.alloc (.cells (M.setIfInBounds own (.bool true)) 4) = W7 := ⟨_, rfl⟩
      have hb57 : Below w5.heap.size w5 W7 := by rw [← hW7]; exact (Below.refl _ w5).alloc (Nat.le_refl _) _
      have x7 : W7.heap[B]? = some (.cells (bls ((List.replicate n false).set own true)).toArray 4 (0, 0)) := by
        rw [← hW7, ← hM, List.setIfInBounds_toArray, bls_set, ← hB]; exact heap_alloc_new w5 _
      have hok := okA_start N own (by rw [HNl.out, HL.out]; exact hownn)
      rw [HNl.out, HL.out] at hok
      have hz15 : W1.heap.size ≤ w5.heap.size := hbX.size
      have HW7 := Lib.hid hW7
      have HBw := Lib.hid (And.intro hbX (And.intro hb5w hb57))
      have HOF := Lib.hid hof
      have HX7 := Lib.hid (And.intro x7 hok)
      have hB7 : B < W7.heap.size := obj_lt x7
      have HBeq := Lib.hid hB
      obtain ⟨ra', rc', ecl, hcells⟩ := hcl
      injection ecl with ec1 ec2 ec3
      subst ec1 ec3
      have HCs := Lib.hid hcells
      have HLb := Lib.hid (show ∀ c ∈ L, (c.2.1.length ≤ 1000000 ∧ c.2.2.length ≤ 1000000) ∧ (∀ s ∈ c.2.1, s.length ≤ 140737488355328) ∧ ∀ s ∈ c.2.2, s.length ≤ 140737488355328 by
        intro c hc
        obtain ⟨s, _, hsc⟩ := (hof c).1 hc
        have := scC_mem hlow hsc
        exact ⟨HLm.out c this, HLs.out c this⟩)
      obtain ⟨nL, hnL⟩ : ∃ n, L.length = n := ⟨_, rfl⟩
      have HnL := Lib.hid hnL
      rw [hnL] at hL1
      rw [hnL]
      have hz1B : W1.heap.size ≤ B := by omega
      clear hb5 hbX f1 e1 hof hLl hb5w x7 hb57 hok hW7 hM hcells hvln hnL hlow ec2
      go_wp2
      rw [HW7.out]
      clear hMo hmk
      have hBW5 : ∀ wr, Below B W7 wr → Below B w5 wr := fun wr hb => by have := HBw.out.2.2; rw [HBeq.out] at this; exact this.trans hb
      have HBW5 := Lib.hid hBW5
      clear hBW5
      go_loopw [49] (fun v wr => ∃ (k : Nat) (al : List Bool), k ≤ nL ∧ v = .int .i64 (k : Nat) ∧ wr.heap[B]? = some (.cells (bls al).toArray 4 (0, 0)) ∧ okA N own (alS (L.take k)) al ∧ (∀ j (hj : j < L.length), j < k → ∀ m ∈ L[j].2.1, inL N m = true) ∧ Below B W7 wr) (fun v _ => nL - (intOf v).toNat)
      case atStart => exact ⟨0, _, by omega, rfl, HX7.out.1, HX7.out.2, fun j _ h => by omega, Below.refl _ _⟩
      case round =>
        obtain ⟨k, al, hk, rfl, hblk, hok, hmu, hb⟩ := hrel
        obtain ⟨wo, rfl⟩ : ∃ wo, wo = wr := ⟨_, rfl⟩
        have hBo : B < wo.heap.size := obj_lt hblk
        have hb5o := HBW5.out wo hb
        by_cases hlt : k < nL
        · have hkl : (k : Int) < (nL : Int) := by omega
          have hkm : k < L.length := by rw [HnL.out]; exact hlt
          obtain ⟨g2, o2, mu, ma, rfl, hg2, c0w, c1w, c2w, tu, ta, su, sa⟩ := HCs.out k hkm
          have hg2B : g2 < B := by rw [← HBeq.out]; exact hg2
          have c0 := (hb5o.cell (p := ⟨g2, _, none⟩) hg2B).trans c0w
          have c1 := (hb5o.cell (p := ⟨g2, _, none⟩) hg2B).trans c1w
          have c2 := (hb5o.cell (p := ⟨g2, _, none⟩) hg2B).trans c2w
          have hcb := HLb.out _ (List.getElem_mem hkm)
          have hcm : L[k] ∈ L := List.getElem_mem hkm
          have hat := alS_take L k hkm
          have hmu2 : (∀ m ∈ L[k].2.1, inL N m = true) → ∀ j (hj : j < L.length), j < k + 1 → ∀ m ∈ L[j].2.1, inL N m = true := by
            intro hx j hj hjk
            by_cases e : j = k
            · subst e; exact hx
            · exact hmu j hj (by omega)
          have HFk := Lib.hid (fun (mm : List UInt8) (hmm : mm ∈ (L[k]'hkm).2.1) (hx : ixL N mm = none) => HFm.out L HOF.out (L[k]'hkm) hcm mm hmm hx)
          obtain ⟨nm, hnm⟩ : ∃ x, L[k].1 = x := ⟨_, rfl⟩
          obtain ⟨MU, hMU⟩ : ∃ x, L[k].2.1 = x := ⟨_, rfl⟩
          obtain ⟨MA, hMA⟩ : ∃ x, L[k].2.2 = x := ⟨_, rfl⟩
          rw [hnm] at c0
          rw [hMU] at tu hcb hat hmu2 HFk
          rw [hMA] at ta hcb hat
          obtain ⟨a3, c3, rfl, tux⟩ := tu
          obtain ⟨a4, c4, rfl, tax⟩ := ta
          have HTU := Lib.hid tux
          have HTA := Lib.hid tax
          obtain ⟨n3, hn3⟩ : ∃ x, MU.length = x := ⟨_, rfl⟩
          obtain ⟨n4, hn4⟩ : ∃ x, MA.length = x := ⟨_, rfl⟩
          have HN3 := Lib.hid hn3
          have HN4 := Lib.hid hn4
          rw [hn3] at c1 hcb
          rw [hn4] at c2 hcb
          have hn3l := hcb.1.1
          have hn4l := hcb.1.2
          have HCB := Lib.hid hcb.2
          obtain ⟨W8, hW8⟩ : ∃ W8, wo.alloc (.cells #[.string ⟨nm.toArray⟩, .slice a3 n3 c3, .slice a4 n4 c4] 79) = W8 := ⟨_, rfl⟩
          have hb8 : Below wo.heap.size wo W8 := by rw [← hW8]; exact (Below.refl _ wo).alloc (Nat.le_refl _) _
          have y8 : W8.heap[wo.heap.size]? = some (.cells #[.string ⟨nm.toArray⟩, .slice a3 n3 c3, .slice a4 n4 c4] 79 (0, 0)) := by rw [← hW8]; exact heap_alloc_new wo _
          obtain ⟨i0, i1, i2⟩ := obj3 y8
          have HW8 := Lib.hid hW8
          have HI := Lib.hid (And.intro hblk (And.intro hok (And.intro hmu2 (And.intro hb (And.intro hb8 (And.intro y8 hat))))))
          clear hblk hok hmu hb hb5o c0w c1w c2w hcb hcm hmu2 hnm hMU hMA tux tax hn3 hn4 hW8 hb8 y8 su sa hat
          go_wp2
          rw [HW8.out]
          clear i0 i1 i2 c0 c1 c2
          go_loopw [56] (fun v wz => ∃ (j : Nat) (al : List Bool), j ≤ n3 ∧ v = .int .i64 (j : Nat) ∧ wz.heap[B]? = some (.cells (bls al).toArray 4 (0, 0)) ∧ okA N own (alS (L.take k) ++ MU.take j) al ∧ (∀ q (hq : q < MU.length), q < j → inL N MU[q] = true) ∧ Below B wo wz ∧ wz.heap[wo.heap.size]? = some (.cells #[.string ⟨nm.toArray⟩, .slice a3 n3 c3, .slice a4 n4 c4] 79 (0, 0))) (fun v _ => n3 - (intOf v).toNat)
          case atStart => exact ⟨0, al, by omega, rfl, obj_below HI.out.1 HI.out.2.2.2.2.1 hBo, by rw [List.take_zero, List.append_nil]; exact HI.out.2.1, fun q _ h => by omega, HI.out.2.2.2.2.1.mono (Nat.le_of_lt hBo), HI.out.2.2.2.2.2.1⟩
          case round =>
            obtain ⟨j, al2, hj, rfl, hblk, hok, hgood, hbz, hy⟩ := hrel
            have hBz : B < wr.heap.size := obj_lt hblk
            have hb5z := HBW5.out wr (HI.out.2.2.2.1.trans hbz)
            by_cases hjl : j < n3
            · have hji : (j : Int) < (n3 : Int) := by omega
              have hjm : j < MU.length := by rw [HN3.out]; exact hjl
              obtain ⟨g3, o3, rfl, hg3, vw⟩ := HTU.out j hjm
              have v0 := (hb5z.cell (p := ⟨g3, _, none⟩) (by show g3 < B; rw [← HBeq.out]; exact hg3)).trans vw
              have hmem : MU[j] ∈ MU := List.getElem_mem hjm
              have hsl := HCB.out.1 _ hmem
              have hFj := HFk.out _ hmem
              have hts := List.take_succ_eq_append_getElem hjm
              have hgood2 : inL N MU[j] = true → ∀ q (hq : q < MU.length), q < j + 1 → inL N MU[q] = true := by
                intro hx q hq hqj
                by_cases e : q = j
                · subst e; exact hx
                · exact hgood q hq (by omega)
              obtain ⟨s, hs⟩ : ∃ s, MU[j] = s := ⟨_, rfl⟩
              rw [hs] at v0 hsl hFj hts hgood2
              have hb1z : Below W1.heap.size W1 wr := HBw.out.1.trans (hb5z.mono hz1B)
              have hPs := HP.out wr hb1z s hsl
              have HJ := Lib.hid (And.intro hblk (And.intro hok (And.intro hbz (And.intro hy (And.intro hts hgood2)))))
              have hall : al2.length = n := by rw [hok.1, HNl.out, HL.out]
              cases hq : ixL N s with
              | none =>
                rw [hq] at hPs
                have HPs := Lib.hid (show Calls Tryz.prog 85 #[.pointer (some ⟨w.heap.size, 0, none⟩), .string ⟨s.toArray⟩] wr (fun en w'' => en = .returned (.tuple #[.int .i64 0, .bool false]) ∧ wr = w'') from hPs)
                have HQ := Lib.hid (And.intro (hFj hq) (HBw.out.2.1.trans (hb5z.mono (by omega))))
                clear hq hPs hblk hok hgood hbz hy hb5z vw hsl hFj hts hgood2 hb1z hmem hs
                go_wp2_with fail
                refine HPs.out.mono ?_
                rintro en w9 ⟨rfl, rfl⟩
                go_wp2
                go_ret
                exact bB_mk HQ.out.1 HQ.out.2
              | some i =>
                rw [hq] at hPs
                have HPs := Lib.hid (show Calls Tryz.prog 85 #[.pointer (some ⟨w.heap.size, 0, none⟩), .string ⟨s.toArray⟩] wr (fun en w'' => en = .returned (.tuple #[.int .i64 (i : Nat), .bool true]) ∧ wr = w'') from hPs)
                have hil := ix_lt hq
                have hin : i < n := by rw [← HL.out, ← HNl.out]; exact hil
                have hii : (i : Int) < (n : Int) := by omega
                have hii0 : (0 : Int) ≤ (i : Int) := by omega
                have hial : i < al2.length := by rw [hall]; exact hin
                have b0 := obj_cell hblk i _ (by simpa using bls_at al2 i hial)
                have b1 := obj_free hblk i
                have HQ := Lib.hid (And.intro (okA_hit HNd.out hok hq) (hgood2 (ix_in hq)))
                clear hq hPs hblk hok hgood hbz hy hb5z vw hsl hFj hts hgood2 hb1z hmem hs
                go_wp2_with fail
                refine HPs.out.mono ?_
                rintro en w9 ⟨rfl, rfl⟩
                go_wp2
                refine ⟨⟨j + 1, al2.set i true, by omega, by go_num, ?_, ?_, HQ.out.2, HJ.out.2.2.1.setCell (p := ⟨B, i, none⟩) (Nat.le_refl _) _, obj_set_other HJ.out.2.2.2.1 (by show wo.heap.size ≠ B; omega) _⟩, by simp [intOf]; omega⟩
                · have := obj_set HJ.out.1 i (.bool true)
                  rw [List.setIfInBounds_toArray, bls_set] at this
                  exact this
                · rw [HJ.out.2.2.2.2.1, ← List.append_assoc]; exact HQ.out.1
            · obtain rfl : j = n3 := by omega
              have hMt : MU.take j = MU := List.take_of_length_le (by rw [HN3.out]; exact Nat.le_refl _)
              rw [hMt] at hok
              obtain ⟨wi, rfl⟩ : ∃ wi, wi = wr := ⟨_, rfl⟩
              have HK := Lib.hid (And.intro hblk (And.intro hok (And.intro hbz (And.intro hy (HI.out.2.2.1 (fun mm hmm => by
                obtain ⟨q, hq, rfl⟩ := List.getElem_of_mem hmm
                exact hgood q hq (by rw [HN3.out] at hq; exact hq)))))))
              obtain ⟨i0, i1, i2⟩ := obj3 hy
              clear hblk hok hgood hbz hy hb5z hMt
              go_wp2
              clear i0 i1 i2
              have hBi : B < wi.heap.size := obj_lt HK.out.1
              go_loopw [74] (fun v wz => ∃ (j : Nat) (al : List Bool), j ≤ n4 ∧ v = .int .i64 (j : Nat) ∧ wz.heap[B]? = some (.cells (bls al).toArray 4 (0, 0)) ∧ okA N own (alS (L.take k) ++ MU ++ MA.take j) al ∧ Below B wi wz) (fun v _ => n4 - (intOf v).toNat)
              case atStart => exact ⟨0, al2, by omega, rfl, HK.out.1, by rw [List.take_zero, List.append_nil]; exact HK.out.2.1, Below.refl _ _⟩
              case round =>
                obtain ⟨j2, al3, hj2, rfl, hblk, hok, hbz⟩ := hrel
                have hBz : B < wr.heap.size := obj_lt hblk
                have hb5z := HBW5.out wr ((HI.out.2.2.2.1.trans HK.out.2.2.1).trans hbz)
                by_cases hjl2 : j2 < n4
                · have hji : (j2 : Int) < (n4 : Int) := by omega
                  have hjm : j2 < MA.length := by rw [HN4.out]; exact hjl2
                  obtain ⟨g3, o3, rfl, hg3, vw⟩ := HTA.out j2 hjm
                  have v0 := (hb5z.cell (p := ⟨g3, _, none⟩) (by show g3 < B; rw [← HBeq.out]; exact hg3)).trans vw
                  have hmem : MA[j2] ∈ MA := List.getElem_mem hjm
                  have hsl := HCB.out.2 _ hmem
                  have hts := List.take_succ_eq_append_getElem hjm
                  obtain ⟨s, hs⟩ : ∃ s, MA[j2] = s := ⟨_, rfl⟩
                  rw [hs] at v0 hsl hts
                  have hb1z : Below W1.heap.size W1 wr := HBw.out.1.trans (hb5z.mono hz1B)
                  have hPs := HP.out wr hb1z s hsl
                  have HJ := Lib.hid (And.intro hblk (And.intro hok (And.intro hbz hts)))
                  have hall : al3.length = n := by rw [hok.1, HNl.out, HL.out]
                  cases hq : ixL N s with
                  | none =>
                    rw [hq] at hPs
                    have HPs := Lib.hid (show Calls Tryz.prog 85 #[.pointer (some ⟨w.heap.size, 0, none⟩), .string ⟨s.toArray⟩] wr (fun en w'' => en = .returned (.tuple #[.int .i64 0, .bool false]) ∧ wr = w'') from hPs)
                    have HQ := Lib.hid (okA_miss hok hq)
                    clear hq hPs hblk hok hbz hb5z vw hsl hts hb1z hmem hs
                    go_wp2_with fail
                    refine HPs.out.mono ?_
                    rintro en w9 ⟨rfl, rfl⟩
                    go_wp2
                    refine ⟨⟨j2 + 1, al3, by omega, by go_num, HJ.out.1, ?_, HJ.out.2.2.1⟩, by simp [intOf]; omega⟩
                    rw [HJ.out.2.2.2, ← List.append_assoc]; exact HQ.out
                  | some i =>
                    rw [hq] at hPs
                    have HPs := Lib.hid (show Calls Tryz.prog 85 #[.pointer (some ⟨w.heap.size, 0, none⟩), .string ⟨s.toArray⟩] wr (fun en w'' => en = .returned (.tuple #[.int .i64 (i : Nat), .bool true]) ∧ wr = w'') from hPs)
                    have hil := ix_lt hq
                    have hin : i < n := by rw [← HL.out, ← HNl.out]; exact hil
                    have hii : (i : Int) < (n : Int) := by omega
                    have hii0 : (0 : Int) ≤ (i : Int) := by omega
                    have hial : i < al3.length := by rw [hall]; exact hin
                    have b0 := obj_cell hblk i _ (by simpa using bls_at al3 i hial)
                    have b1 := obj_free hblk i
                    have HQ := Lib.hid (okA_hit HNd.out hok hq)
                    clear hq hPs hblk hok hbz hb5z vw hsl hts hb1z hmem hs
                    go_wp2_with fail
                    refine HPs.out.mono ?_
                    rintro en w9 ⟨rfl, rfl⟩
                    go_wp2
                    refine ⟨⟨j2 + 1, al3.set i true, by omega, by go_num, ?_, ?_, HJ.out.2.2.1.setCell (p := ⟨B, i, none⟩) (Nat.le_refl _) _⟩, by simp [intOf]; omega⟩
                    · have := obj_set HJ.out.1 i (.bool true)
                      rw [List.setIfInBounds_toArray, bls_set] at this
                      exact this
                    · rw [HJ.out.2.2.2, ← List.append_assoc]; exact HQ.out
                · obtain rfl : j2 = n4 := by omega
                  have hMt : MA.take j2 = MA := List.take_of_length_le (by rw [HN4.out]; exact Nat.le_refl _)
                  rw [hMt] at hok
                  have HZ := Lib.hid (And.intro hblk (And.intro hok ((HI.out.2.2.2.1.trans HK.out.2.2.1).trans hbz)))
                  clear hblk hok hbz hb5z hMt
                  go_wp2
                  refine ⟨⟨k + 1, al3, by omega, by go_num, HZ.out.1, ?_, HK.out.2.2.2.2, HZ.out.2.2⟩, by simp [intOf]; omega⟩
                  rw [HI.out.2.2.2.2.2.2]
                  exact HZ.out.2.1
        · obtain rfl : k = nL := by omega
          have hLt : L.take k = L := List.take_of_length_le (by rw [HnL.out]; exact Nat.le_refl _)
          rw [hLt] at hok
          have hall : al.length = n := by rw [hok.1, HNl.out, HL.out]
          have hR2 := HFa2.out L HOF.out (fun c hc m hm => by
            obtain ⟨i, hi, rfl⟩ := List.getElem_of_mem hc
            exact hmu i hi (by rw [HnL.out] at hi; exact hi) m hm) al hok
          have hC := bcon_any al B n _ wo hblk (by rw [hall]; exact hl)
          rw [hall] at hC
          have HC := Lib.hid hC
          have HQ := Lib.hid (And.intro hR2 (HBw.out.2.1.trans (hb5o.mono (by omega))))
          obtain ⟨bq, hbq⟩ : ∃ b, al.contains false = b := ⟨_, rfl⟩
          rw [hbq] at HC HQ
          clear hblk hok hmu hb hb5o hLt hC hR2 hbq
          go_wp2_with fail
          refine HC.out.mono ?_
          rintro en w9 ⟨rfl, hw⟩
          obtain rfl := hw.symm
          go_wp2
          go_ret
          exact bB_mk HQ.out.1 HQ.out.2
end Go.Proofs.YtbmnpjkcomcboaaGreatDoor
namespace Go.Proofs.YtbmnpjkcomcboaaGreatDoor
set_option linter.unusedSimpArgs false
set_option linter.unusedVariables false
open Go Go.RowKit Go.Proofs.BerK Go.Proofs.MemK Go.Proofs.UtfK

def chkS (T : List Ty) (C : List Cl) (A : List Atr) : Nat :=
  if tyAll T A = false then 17 else if (A.any fun a => a.2.length == 0) = true then 19 else if nmOk (A.map (tyG T)) A = false then 21 else
  if ¬ ((A.map (tyG T)).map (·.1)).Nodup then 20 else if (nmG (A.map (tyG T)) A).any dupL = true then 20 else
  if tmB (A.map (tyG T)) (nmG (A.map (tyG T)) A) = true then 19 else if fitB C ((A.map (tyG T)).map (·.1)) A = false then 65 else 0
theorem tyG_name {T : List Ty} {A : List Atr} (h : tyAll T A = true) : (A.map (tyG T)).map (·.1) = A.map fun a => lowL a.1 := by
  rw [List.map_map]
  apply List.map_congr_left
  intro a ha
  have := List.all_eq_true.1 h a ha
  obtain ⟨t, ht⟩ := Option.isSome_iff_exists.1 this
  simp only [Function.comp, tyG, ht, Option.getD_some]
  exact scT_name ht
theorem nmG_mem {TL : List Ty} {A : List Atr} {l : List (List UInt8)} (h : l ∈ nmG TL A) : ∃ t, ∃ a ∈ A, l = nmV t a := by
  unfold nmG at h
  obtain ⟨i, hi, rfl⟩ := List.getElem_of_mem h
  simp at hi
  exact ⟨TL[i], A[i], List.getElem_mem _, by simp⟩
set_option maxHeartbeats 6400000 in
set_option maxRecDepth 100000 in
theorem scheck_any (g : Nat) (T : List Ty) (C : List Cl) (A : List Atr) (dn : ByteArray) (v : Value) (w : World) (h : ScAt w g T C) (hlowT : LowT T) (hlowC : LowC C) (hlT : T.length ≤ 1024) (hlC : C.length ≤ 1024) (hA : AtAt w v A)
    (hl : A.length ≤ 1000000) (hv : ∀ a ∈ A, a.1.length ≤ 140737488355328 ∧ a.2.length ≤ 1000000 ∧ ∀ s ∈ a.2, s.length ≤ 140737488355328) (hlm : ∀ c ∈ C, c.2.1.length ≤ 1000000 ∧ c.2.2.length ≤ 1000000) (hs : ∀ c ∈ C, (∀ s ∈ c.2.1, s.length ≤ 140737488355328) ∧ ∀ s ∈ c.2.2, s.length ≤ 140737488355328) (he : ErrOk w) :
    Calls Tryz.prog 60 #[.pointer (some ⟨g, 0, none⟩), .agg #[.string dn, v]] w (ScI (chkS T C A : Nat) w) := by
  obtain ⟨R, hR⟩ : ∃ R, chkS T C A = R := ⟨_, rfl⟩
  have hR' := hR
  rw [hR]
  unfold chkS at hR'
  obtain ⟨TL, hTL⟩ : ∃ TL, A.map (tyG T) = TL := ⟨_, rfl⟩
  rw [hTL] at hR'
  have hTLl : TL.length = A.length := by rw [← hTL]; simp
  obtain ⟨G, hG⟩ : ∃ G, nmG TL A = G := ⟨_, rfl⟩
  rw [hG] at hR'
  have hGl : G.length = A.length := by rw [← hG]; unfold nmG; simp; omega
  obtain ⟨N, hN⟩ : ∃ N, TL.map (·.1) = N := ⟨_, rfl⟩
  rw [hN] at hR'
  have hNl : N.length = A.length := by rw [← hN]; simpa using hTLl
  have hb0 : ∀ wb, Below w.heap.size w (w.alloc wb) := fun wb => (Below.refl _ w).alloc (Nat.le_refl _) _
  obtain ⟨a, c, rfl, _⟩ := id hA
  obtain ⟨W1, hW1⟩ : ∃ W1, w.alloc (.cells #[.string dn, .slice a A.length c] 39) = W1 := ⟨_, rfl⟩
  have hb1 : Below w.heap.size w W1 := by rw [← hW1]; exact hb0 _
  have x1 : W1.heap[w.heap.size]? = some (.cells #[.string dn, .slice a A.length c] 39 (0, 0)) := by rw [← hW1]; exact heap_alloc_new w _
  have hz1 : w.heap.size < W1.heap.size := obj_lt x1
  have HTy := Lib.hid (typesOf_any g T C A _ W1 (scAt_below h hb1) hlowT hlT (atAt_below hA hb1) hl (fun a ha => (hv a ha).1))
  have HCn := Lib.hid (fun w' (hb : Below W1.heap.size W1 w') => cnA_any A _ w' (atAt_below hA (hb1.trans (hb.mono hb1.size))) hl)
  have HNo := Lib.hid (fun tv w' (hb : Below W1.heap.size W1 w') (ht : TyAt w' tv TL) => norms_any TL A tv _ w' ht (atAt_below hA (hb1.trans (hb.mono hb1.size))) hTLl hl (fun a ha => (hv a ha).2.1) (errOk_below he (hb1.trans (hb.mono hb1.size))))
  have HDu := Lib.hid (fun gv w' (hg : GrAt w' gv G) => cnG_any G gv w' hg (by omega) (fun l hl' => by
    rw [← hG] at hl'
    obtain ⟨t, a, ha, rfl⟩ := nmG_mem hl'
    refine ⟨by unfold nmV; rw [List.length_map]; exact (hv a ha).2.1, fun s hs' => ?_⟩
    obtain ⟨u, _, rfl⟩ := List.mem_map.1 hs'
    have := ru_len t.2.1 u
    omega))
  have HTm := Lib.hid (fun tv gv w' (ht : TyAt w' tv TL) (hg : GrAt w' gv G) => tooMany_any TL G tv gv w' ht hg (by omega) (by omega))
  have HFi := Lib.hid (fun q w' (hb : Below W1.heap.size W1 w') (hq : NmAt w' (.map q) N) (hnd : N.Nodup) => fits_any g T C A N _ q w' (scAt_below h (hb1.trans (hb.mono hb1.size))) hlowC hlC (atAt_below hA (hb1.trans (hb.mono hb1.size))) hq hNl hnd hl (fun a ha => (hv a ha).2) hlm hs)
  have HX := Lib.hid (And.intro hb1 x1)
  have HW1 := Lib.hid hW1
  have HRR := Lib.hid hR'
  obtain ⟨n, hn⟩ : ∃ n, A.length = n := ⟨_, rfl⟩
  rw [hn] at HTy HCn HNo HFi x1
  have HXc := Lib.hid (obj_cell x1 1 (.slice a n c) rfl)
  have hname : N.length ≤ 1000000 ∧ TL.length ≤ 1000000 := by omega
  have HNa := Lib.hid (fun tv w' (hall : tyAll T A = true) (ht : TyAt w' tv TL) => (show Calls Tryz.prog 102 #[tv] w' (NmsV N w') by
    rw [← hN]
    refine namesOf_any TL tv w' ht (by omega) (fun t ht' => ?_)
    have h2 : t.1 ∈ TL.map (·.1) := List.mem_map.2 ⟨t, ht', rfl⟩
    rw [← hTL, tyG_name hall] at h2
    obtain ⟨a, ha, e⟩ := List.mem_map.1 h2
    rw [← e]
    simpa [lowL] using (hv a ha).1))
  rw [hn] at hW1
  have HW1 := Lib.hid hW1
  have HTLe := Lib.hid hTL
  have HGe := Lib.hid hG
  clear hb0 hb1 x1 hW1 hA hl hv hlm hs he h hlowT hlowC hlT hlC hR hR' hTL hTLl hG hGl hN hNl
  have HNn := Lib.hid hn
  rw [hn]
  clear hn
  cases hty : tyAll T A with
  | false =>
    have HTy0 := Lib.hid (HTy.out.mono (R' := fun en w'' => en = .returned (.tuple #[.slice none 0 0, .bool false]) ∧ Below W1.heap.size W1 w'') (fun en w'' h => ⟨h.1 hty, h.2.2⟩))
    have H := Lib.hid (HRR.out.symm.trans (if_pos hty))
    clear hty
    go_enter Tryz.func60, Tryz.ntmps60
    go_wp2_with fail
    rw [HW1.out]
    refine HTy0.out.mono ?_
    rintro en w2 ⟨rfl, hb⟩
    have HB := Lib.hid (HX.out.1.trans (hb.mono HX.out.1.size))
    clear hb
    go_wp2
    go_ret
    exact scI_mk (by rw [H.out]; rfl) HB.out
  | true =>
    have HTy1 := Lib.hid (HTy.out.mono (R' := fun en w'' => ∃ ta tc, en = .returned (.tuple #[.slice ta n tc, .bool true]) ∧ TyAt w'' (.slice ta n tc) TL ∧ Below W1.heap.size W1 w'') (fun en w'' h => by
      obtain ⟨ta, tc, e, ht⟩ := h.2.1 hty
      rw [HNn.out] at e ht
      exact ⟨ta, tc, e, by rw [← HTLe.out]; exact ht, h.2.2⟩))
    have HNa1 := Lib.hid (fun tv w' ht => HNa.out tv w' hty ht)
    have hR1 := HRR.out
    rw [if_neg (by rw [hty]; simp)] at hR1
    have HR1 := Lib.hid hR1
    clear hty hR1 HRR HNa
    go_enter Tryz.func60, Tryz.ntmps60
    go_wp2_with fail
    rw [HW1.out]
    refine HTy1.out.mono ?_
    rintro en w2 ⟨ta, tc, rfl, ht2, hb2⟩
    have x2 := (hb2.cell (p := ⟨w.heap.size, 1, none⟩) hz1).trans HXc.out
    have H2 := Lib.hid (And.intro ht2 hb2)
    have hz2 : w.heap.size < w2.heap.size := Nat.lt_of_lt_of_le hz1 hb2.size
    clear ht2 hb2
    have HCn2 := Lib.hid (HCn.out w2 H2.out.2)
    obtain ⟨q1, hq1⟩ : ∃ b, (A.any fun a => a.2.length == 0) = b := ⟨_, rfl⟩
    rw [hq1] at HCn2 HR1
    clear hq1
    go_wp2_with fail
    refine HCn2.out.mono ?_
    rintro en w3 ⟨rfl, hb⟩
    have x3 := (hb.cell (p := ⟨w.heap.size, 1, none⟩) hz2).trans x2
    have H3 := Lib.hid (And.intro (tyAt_below H2.out.1 hb) (H2.out.2.trans (hb.mono H2.out.2.size)))
    have hz3 : w.heap.size < w3.heap.size := Nat.lt_of_lt_of_le hz2 hb.size
    clear hb x2
    cases q1 with
    | true =>
      have H := Lib.hid (HR1.out.symm.trans (if_pos rfl))
      have HB := Lib.hid (HX.out.1.trans (H3.out.2.mono HX.out.1.size))
      clear x3
      go_wp2
      go_ret
      exact scI_mk (by rw [H.out]; rfl) HB.out
    | false =>
    have hR1 := HR1.out
    rw [if_neg (by simp)] at hR1
    have HR2 := Lib.hid hR1
    clear hR1
    cases hno : nmOk TL A with
    | false =>
      have HNo0 := Lib.hid ((HNo.out _ w3 H3.out.2 H3.out.1).mono (R' := fun en w'' => en = .returned (.tuple #[.slice none 0 0, .bool false]) ∧ Below w3.heap.size w3 w'') (fun en w'' h => ⟨h.1 hno, h.2.2⟩))
      have H := Lib.hid (HR2.out.symm.trans (if_pos hno))
      clear hno
      go_wp2_with fail
      refine HNo0.out.mono ?_
      rintro en w4 ⟨rfl, hb⟩
      have HB := Lib.hid (HX.out.1.trans ((H3.out.2.trans (hb.mono H3.out.2.size)).mono HX.out.1.size))
      clear hb x3
      go_wp2
      go_ret
      exact scI_mk (by rw [H.out]; rfl) HB.out
    | true =>
    have HNo1 := Lib.hid ((HNo.out _ w3 H3.out.2 H3.out.1).mono (R' := fun en w'' => ∃ ga gn gc, en = .returned (.tuple #[.slice ga gn gc, .bool true]) ∧ GrAt w'' (.slice ga gn gc) G ∧ Below w3.heap.size w3 w'') (fun en w'' h => by
      obtain ⟨v, e, hg⟩ := h.2.1 hno
      rw [HGe.out] at hg
      obtain ⟨ga, gc, rfl, hx⟩ := id hg
      exact ⟨ga, _, gc, e, hg, h.2.2⟩))
    have hR1 := HR2.out
    rw [if_neg (by rw [hno]; simp)] at hR1
    have HR3 := Lib.hid hR1
    clear hR1 hno
    go_wp2_with fail
    refine HNo1.out.mono ?_
    rintro en w4 ⟨ga, gn, gc, rfl, hg4, hb⟩
    have x4 := (hb.cell (p := ⟨w.heap.size, 1, none⟩) hz3).trans x3
    have H4 := Lib.hid (And.intro (tyAt_below H3.out.1 hb) (And.intro (H3.out.2.trans (hb.mono H3.out.2.size)) hg4))
    have hz4 : w.heap.size < w4.heap.size := Nat.lt_of_lt_of_le hz3 hb.size
    clear hb x3 hg4
    by_cases hnd : N.Nodup
    · have HNa2 := Lib.hid ((HNa1.out _ w4 H4.out.1).mono (R' := fun en w'' => ∃ q, en = .returned (.tuple #[.agg #[.map q], .bool true]) ∧ NmAt w'' (.map q) N ∧ Below w4.heap.size w4 w'') (fun en w'' h => by
        obtain ⟨mv, e, hm⟩ := h.2.1 hnd
        obtain ⟨q, rfl⟩ := nmAt_form hm
        exact ⟨q, e, hm, h.2.2⟩))
      have hR1 := HR3.out
      rw [if_neg (fun h => h hnd)] at hR1
      have HR4 := Lib.hid hR1
      have HND := Lib.hid hnd
      clear hR1 hnd
      go_wp2_with fail
      refine HNa2.out.mono ?_
      rintro en w5 ⟨q, rfl, hm5, hb⟩
      have x5 := (hb.cell (p := ⟨w.heap.size, 1, none⟩) hz4).trans x4
      have hz5 : w.heap.size < w5.heap.size := Nat.lt_of_lt_of_le hz4 hb.size
      obtain ⟨W6, hW6⟩ : ∃ W6, w5.alloc (.cells #[.map q] 103) = W6 := ⟨_, rfl⟩
      have hb56 : Below w5.heap.size w5 W6 := by rw [← hW6]; exact (Below.refl _ w5).alloc (Nat.le_refl _) _
      have y6 : W6.heap[w5.heap.size]? = some (.cells #[.map q] 103 (0, 0)) := by rw [← hW6]; exact heap_alloc_new w5 _
      have hb46 := hb.trans (hb56.mono hb.size)
      have x6 := (hb56.cell (p := ⟨w.heap.size, 1, none⟩) hz5).trans x5
      have HW6 := Lib.hid hW6
      have H6 := Lib.hid (And.intro (tyAt_below H4.out.1 hb46) (And.intro (H4.out.2.1.trans (hb46.mono H4.out.2.1.size)) (And.intro (grAt_below H4.out.2.2 hb46) (And.intro (nmAt_below hm5 hb56) y6))))
      have hz6 : w.heap.size < W6.heap.size := Nat.lt_of_lt_of_le hz5 hb56.size
      have hz56 : w5.heap.size < W6.heap.size := obj_lt y6
      clear hb x4 hm5 hb56 hW6 hb46 y6
      have HDu6 := Lib.hid (HDu.out _ W6 H6.out.2.2.1)
      obtain ⟨q2, hq2⟩ : ∃ b, G.any dupL = b := ⟨_, rfl⟩
      rw [hq2] at HDu6 HR4
      clear hq2
      go_wp2_with fail
      rw [HW6.out]
      clear x5
      refine HDu6.out.mono ?_
      rintro en w7 ⟨rfl, hb⟩
      have x7 := (hb.cell (p := ⟨w.heap.size, 1, none⟩) hz6).trans x6
      have y7 := obj_cell (obj_below H6.out.2.2.2.2 hb hz56) 0 (.map q) rfl
      have H7 := Lib.hid (And.intro (tyAt_below H6.out.1 hb) (And.intro (H6.out.2.1.trans (hb.mono H6.out.2.1.size)) (And.intro (grAt_below H6.out.2.2.1 hb) (nmAt_below H6.out.2.2.2.1 hb))))
      have hz7 : w.heap.size < w7.heap.size := Nat.lt_of_lt_of_le hz6 hb.size
      have hz57 : w5.heap.size < w7.heap.size := Nat.lt_of_lt_of_le hz56 hb.size
      clear hb x6
      cases q2 with
      | true =>
        have H := Lib.hid (HR4.out.symm.trans (if_pos rfl))
        have HB := Lib.hid (HX.out.1.trans (H7.out.2.1.mono HX.out.1.size))
        clear x7 y7
        go_wp2
        go_ret
        exact scI_mk (by rw [H.out]; rfl) HB.out
      | false =>
      have hR1 := HR4.out
      rw [if_neg (by simp)] at hR1
      have HTm7 := Lib.hid (HTm.out _ _ w7 H7.out.1 H7.out.2.2.1)
      obtain ⟨q3, hq3⟩ : ∃ b, tmB TL G = b := ⟨_, rfl⟩
      rw [hq3] at HTm7 hR1
      have HR5 := Lib.hid hR1
      clear hq3 hR1
      go_wp2_with fail
      refine HTm7.out.mono ?_
      rintro en w8 ⟨rfl, hb⟩
      have x8 := (hb.cell (p := ⟨w.heap.size, 1, none⟩) hz7).trans x7
      have y8 := (hb.cell (p := ⟨w5.heap.size, 0, none⟩) hz57).trans y7
      have H8 := Lib.hid (And.intro (H7.out.2.1.trans (hb.mono H7.out.2.1.size)) (nmAt_below H7.out.2.2.2 hb))
      clear hb x7 y7
      cases q3 with
      | true =>
        have H := Lib.hid (HR5.out.symm.trans (if_pos rfl))
        have HB := Lib.hid (HX.out.1.trans (H8.out.1.mono HX.out.1.size))
        clear x8 y8
        go_wp2
        go_ret
        exact scI_mk (by rw [H.out]; rfl) HB.out
      | false =>
      have hR1 := HR5.out
      rw [if_neg (by simp)] at hR1
      have HFi8 := Lib.hid (HFi.out q w8 H8.out.1 H8.out.2 HND.out)
      obtain ⟨q4, hq4⟩ : ∃ b, fitB C N A = b := ⟨_, rfl⟩
      rw [hq4] at HFi8 hR1
      have HR6 := Lib.hid hR1
      clear hq4 hR1
      go_wp2_with fail
      refine HFi8.out.mono ?_
      rintro en w9 ⟨rfl, hb⟩
      have HB := Lib.hid (HX.out.1.trans ((H8.out.1.trans (hb.mono H8.out.1.size)).mono HX.out.1.size))
      clear hb x8 y8
      cases q4 with
      | false =>
        have H := Lib.hid (HR6.out.symm.trans (if_pos rfl))
        go_wp2
        go_ret
        exact scI_mk (by rw [H.out]; rfl) HB.out
      | true =>
        have H := Lib.hid (HR6.out.symm.trans (if_neg (by simp)))
        go_wp2
        go_ret
        exact scI_mk (by rw [H.out]; rfl) HB.out
    · have HNa2 := Lib.hid ((HNa1.out _ w4 H4.out.1).mono (R' := fun en w'' => en = .returned (.tuple #[.agg #[.map none], .bool false]) ∧ Below w4.heap.size w4 w'') (fun en w'' h => ⟨h.1 hnd, h.2.2⟩))
      have H := Lib.hid (HR3.out.symm.trans (if_pos hnd))
      clear hnd
      go_wp2_with fail
      refine HNa2.out.mono ?_
      rintro en w5 ⟨rfl, hb⟩
      have hbw := HX.out.1.trans ((H4.out.2.1.trans (hb.mono H4.out.2.1.size)).mono HX.out.1.size)
      have HB := Lib.hid (hbw.alloc hbw.size (.cells #[.map none] 103))
      clear hb hbw x4
      go_wp2
      go_ret
      exact scI_mk (by rw [H.out]; rfl) HB.out
end Go.Proofs.YtbmnpjkcomcboaaGreatDoor
