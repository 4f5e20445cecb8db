/- The code's of: the classes that values name. The code's slices.Contains of truths; fits, plainly. The code's fits: whether attributes are such as the classes that they name have. -/
import Derived.Test.YtcfckgpjdaadeaaGreatDoorSnNP
import Derived.Test.YtcfckgpjdaadeaaGreatDoorSnEF
namespace Go.Proofs.YtcfckgpjdaadeaaGreatDoor
set_option linter.unusedSimpArgs false
set_option linter.unusedVariables false
open Go Go.RowKit Go.Proofs.BerK Go.Proofs.MemK Go.Proofs.UtfK

theorem scC_congr {C : List Cl} {s t : List UInt8} (h : lowL s = lowL t) : scC C s = scC C t := by unfold scC; rw [h]
/-- Classes to be read behind their cells. -/
def ClsR (w : World) (L : List Cl) (Lq : List (List UInt8 × Value × Value)) : Prop :=
  Lq.length = L.length ∧ ∀ i (h1 : i < L.length) (h2 : i < Lq.length), Lq[i].1 = L[i].1 ∧ TxR w Lq[i].2.1 L[i].2.1 ∧ TxR w Lq[i].2.2 L[i].2.2 ∧ SlOk Lq[i].2.1 ∧ SlOk Lq[i].2.2
theorem clsR_nil (w : World) : ClsR w [] [] := ⟨rfl, fun i h => by simp at h⟩
theorem clsR_snoc {w : World} {L : List Cl} {Lq : List (List UInt8 × Value × Value)} (h : ClsR w L Lq) (c : Cl) (mu ma : Value) (h1 : TxR w mu c.2.1) (h2 : TxR w ma c.2.2) (h3 : SlOk mu) (h4 : SlOk ma) : ClsR w (L ++ [c]) (Lq ++ [(c.1, mu, ma)]) := by
  refine ⟨by simp [h.1], fun i i1 i2 => ?_⟩
  by_cases hi : i < L.length
  · rw [List.getElem_append_left hi, List.getElem_append_left (by rw [h.1]; exact hi)]
    exact h.2 i hi _
  · have : i = L.length := by simp at i1; omega
    subst this
    have e : Lq.length = L.length := h.1
    simp only [List.getElem_append_right (Nat.le_refl L.length), Nat.sub_self, List.getElem_cons_zero]
    rw [List.getElem_append_right (by omega)]
    simp [e, h1, h2, h3, h4]
theorem clAt_ownsR {w0 w : World} {B : Nat} {v : Value} {C : List Cl} {L : List (List UInt8 × Value × Value)} (h : w.ownsRow B 40 3 v C.length (clcs L)) (hc : ClsR w0 C L) (hb : Below w0.heap.size w0 w) : ClAt w v C := by
  rcases h.2 with ⟨rfl, h0⟩ | ⟨g, cap, cur, rfl, _, hg, _⟩
  · exact ⟨none, 0, by rw [h0], fun i hi => by omega⟩
  · refine ⟨_, cap, rfl, fun i hi => ?_⟩
    have hl : i < L.length := by rw [hc.1]; exact hi
    obtain ⟨h0, t1, t2, s1, s2⟩ := hc.2 i hi hl
    obtain ⟨a1, a2, a3⟩ := clcs_at L i hl
    refine ⟨g, 0, L[i].2.1, L[i].2.2, rfl, (Array.getElem?_eq_some_iff.1 hg).1, ?_⟩
    rw [Nat.zero_add]
    exact ⟨(h.cellAt _ (by omega)).trans (by rw [a1, h0]), (h.cellAt _ (by omega)).trans a2, (h.cellAt _ (by omega)).trans a3, txR_below t1 hb, txR_below t2 hb, s1, s2⟩
/-- Do all values name a class? -/
def ofOk (C : List Cl) (vs : List (List UInt8)) : Bool := vs.all fun s => (scC C s).isSome
def OfIs (C : List Cl) (vs : List (List UInt8)) (L : List Cl) : Prop := ∀ c, c ∈ L ↔ ∃ s ∈ vs, scC C s = some c
def OfPost (C : List Cl) (vs : List (List UInt8)) (w : World) (en : Ending) (w' : World) : Prop :=
  (ofOk C vs = false → en = .returned (.tuple #[.slice none 0 0, .bool false])) ∧ (ofOk C vs = true → ∃ v L, en = .returned (.tuple #[v, .bool true]) ∧ ClAt w' v L ∧ OfIs C vs L ∧ L.length ≤ vs.length) ∧ Below w.heap.size w w'
theorem ofPost_bad {C : List Cl} {vs : List (List UInt8)} {w w' : World} (h : ofOk C vs = false) (hb : Below w.heap.size w w') : OfPost C vs w (.returned (.tuple #[.slice none 0 0, .bool false])) w' :=
  ⟨fun _ => rfl, (fun h2 => by rw [h] at h2; cases h2), hb⟩
theorem ofPost_ok {C : List Cl} {vs : List (List UInt8)} {w w' : World} {v : Value} {L : List Cl} (h : ofOk C vs = true) (hc : ClAt w' v L) (hi : OfIs C vs L) (hl : L.length ≤ vs.length) (hb : Below w.heap.size w w') : OfPost C vs w (.returned (.tuple #[v, .bool true])) w' :=
  ⟨(fun h2 => by rw [h] at h2; cases h2), fun _ => ⟨v, L, rfl, hc, hi, hl⟩, hb⟩
theorem of_bad {C : List Cl} {vs : List (List UInt8)} (k : Nat) (hk : k < vs.length) (h : scC C vs[k] = none) : ofOk C vs = false := by
  unfold ofOk
  rw [List.all_eq_false]
  exact ⟨vs[k], List.getElem_mem hk, by rw [h]; simp⟩
theorem of_good {C : List Cl} {vs : List (List UInt8)} (h : ∀ k (hk : k < vs.length), (scC C vs[k]).isSome = true) : ofOk C vs = true := by
  unfold ofOk
  rw [List.all_eq_true]
  intro x hx
  obtain ⟨j, hj, rfl⟩ := List.getElem_of_mem hx
  exact h j hj
theorem ofIs_hit {C : List Cl} {vs : List (List UInt8)} {L : List Cl} {k : Nat} (hk : k < vs.length) (h : OfIs C (vs.take k) L) {c : Cl} (hc : scC C vs[k] = some c) {i : Nat} (hi : ixL (L.map (·.1)) c.1 = some i) : OfIs C (vs.take (k + 1)) L := by
  obtain ⟨hil, hie⟩ := ix_some hi
  have hil' : i < L.length := by simpa using hil
  have hie' : L[i].1 = c.1 := by simpa using hie
  obtain ⟨s, hs, hsc⟩ := (h L[i]).1 (List.getElem_mem hil')
  have h1 := scC_name hsc
  have h2 := scC_name hc
  have e : scC C s = scC C vs[k] := scC_congr (by rw [← h1, hie', h2])
  have hcL : L[i] = c := by rw [hsc, hc] at e; injection e
  intro d
  rw [List.take_succ_eq_append_getElem hk]
  constructor
  · intro hd
    obtain ⟨s, hs, hsc⟩ := (h d).1 hd
    exact ⟨s, List.mem_append_left _ hs, hsc⟩
  · rintro ⟨s, hs, hsc⟩
    rcases List.mem_append.1 hs with hs | hs
    · exact (h d).2 ⟨s, hs, hsc⟩
    · rw [List.mem_singleton] at hs
      subst hs
      rw [hc] at hsc
      injection hsc with hsc
      subst hsc
      rw [← hcL]
      exact List.getElem_mem hil'
theorem ofIs_new {C : List Cl} {vs : List (List UInt8)} {L : List Cl} {k : Nat} (hk : k < vs.length) (h : OfIs C (vs.take k) L) {c : Cl} (hc : scC C vs[k] = some c) : OfIs C (vs.take (k + 1)) (L ++ [c]) := by
  intro d
  rw [List.take_succ_eq_append_getElem hk, List.mem_append, List.mem_singleton, h d]
  constructor
  · rintro (⟨s, hs, hsc⟩ | rfl)
    · exact ⟨s, List.mem_append_left _ hs, hsc⟩
    · exact ⟨_, List.mem_append_right _ (List.mem_singleton.2 rfl), hc⟩
  · rintro ⟨s, hs, hsc⟩
    rcases List.mem_append.1 hs with hs | hs
    · exact .inl ⟨s, hs, hsc⟩
    · rw [List.mem_singleton] at hs
      subst hs
      rw [hc] at hsc
      injection hsc with hsc
      exact .inr hsc.symm
set_option maxHeartbeats 6400000 in
set_option maxRecDepth 100000 in
theorem of_any (g : Nat) (T : List Ty) (C : List Cl) (vs : List (List UInt8)) (v : Value) (w : World) (h : ScAt w g T C) (hlow : LowC C) (hlen : C.length ≤ 1024) (ht : TxR w v vs) (hl : vs.length ≤ 1000000) (hs : ∀ s ∈ vs, s.length ≤ 140737488355328) :
    Calls Tryz.prog 77 #[.pointer (some ⟨g, 2, none⟩), v] w (OfPost C vs w) := by
  have hgl := scAt_lt h
  have HP := Lib.hid (fun w' (hb : Below w.heap.size w w') s (hs : s.length ≤ 140737488355328) => (show Calls Tryz.prog 37 #[.pointer (some ⟨g, 2, none⟩), .string ⟨s.toArray⟩] w' (PlPost (ixL (C.map (·.1)) s) w') by
    obtain ⟨m1, a1, n1, c1, m2, a2, n2, c2, h1, _, _, h2, _⟩ := scAt_below h hb
    exact place_any g 2 m2 _ s w' (obj4 h1).2.2.1 h2 hs))
  have HCl := Lib.hid (show ∃ a1 c1, w.cell? ⟨g, 3, none⟩ = some (.slice a1 C.length c1) ∧ ∀ i (hi : i < C.length), ∃ g o mu ma, a1 = some ⟨g, o, none⟩ ∧ g < w.heap.size ∧ w.cell? ⟨g, o + i * 3, none⟩ = some (.string ⟨C[i].1.toArray⟩) ∧ w.cell? ⟨g, o + i * 3 + 1, none⟩ = some mu ∧ w.cell? ⟨g, o + i * 3 + 2, none⟩ = some ma ∧ TxR w mu C[i].2.1 ∧ TxR w ma C[i].2.2 ∧ SlOk mu ∧ SlOk ma by
    obtain ⟨m1, a1, n1, c1, m2, a2, n2, c2, h1, _, _, _, ⟨a, c, e, h3⟩⟩ := h
    injection e with e1 e2 e3
    subst e1 e2 e3
    exact ⟨_, _, (obj4 h1).2.2.2, h3⟩)
  obtain ⟨a1, c1, p3w, hcls⟩ := HCl.out
  have HCs := Lib.hid hcls
  have HP3 := Lib.hid p3w
  clear HCl hcls p3w
  obtain ⟨a, c, rfl, hcells⟩ := ht
  have HM := Lib.hid hcells
  have HS := Lib.hid hs
  have HLow := Lib.hid (fun s => scC_ixl hlow s)
  obtain ⟨n, hn⟩ : ∃ n, vs.length = n := ⟨_, rfl⟩
  have HL := Lib.hid hn
  obtain ⟨nC, hnC⟩ : ∃ n, C.length = n := ⟨_, rfl⟩
  have HLC := Lib.hid hnC
  rw [hn] at hl ⊢
  rw [hnC] at HP3 hlen
  have hb1 : Below w.heap.size w (w.alloc (.cells #[.map none] 71)) := (Below.refl _ w).alloc (Nat.le_refl _) _
  have x0 : (w.alloc (.cells #[.map none] 71)).heap[w.heap.size]? = some (.cells #[.map none] 71 (0, 0)) := heap_alloc_new w _
  obtain ⟨W1, hW1⟩ : ∃ W1, w.alloc (.cells #[.map none] 71) = W1 := ⟨_, rfl⟩
  rw [hW1] at hb1 x0
  have HX := Lib.hid (And.intro hb1 x0)
  have HW1 := Lib.hid hW1
  clear hcells hs hn hnC h hlow hW1 hb1 x0
  go_enter Tryz.func77, Tryz.ntmps77
  go_wp2
  rw [HW1.out]
  go_loopw [7, 15] (fun s7 v wr => ∃ (k : Nat) (L : List Cl) (Lq : List (List UInt8 × Value × Value)) (mv : Value) (ra : Option Addr) (rc : Nat), k ≤ n ∧ v = .int .i64 (k : Nat) ∧ s7 = .slice ra L.length rc ∧ wr.heap[w.heap.size]? = some (.cells #[mv] 71 (0, 0)) ∧ NmAt wr mv (L.map (·.1)) ∧ (∀ b, mv = .map (some b) → w.heap.size < b) ∧
      wr.ownsRow (w.heap.size + 1) 40 3 (.slice ra L.length rc) L.length (clcs Lq) ∧ ClsR w L Lq ∧ OfIs C (vs.take k) L ∧ L.length ≤ k ∧ Below w.heap.size w wr ∧ ∀ j (hj : j < vs.length), j < k → (scC C vs[j]).isSome = true) (fun _ v _ => n - (intOf v).toNat)
  case atStart => exact ⟨0, [], [], .map none, none, 0, by omega, rfl, rfl, HX.out.2, nmAt_nil _, fun b h => (by cases h), ⟨rfl, .inl ⟨rfl, rfl⟩⟩, clsR_nil _, fun c => by simp, by simp, HX.out.1, fun j _ h => by omega⟩
  case round =>
    obtain ⟨k, L, Lq, mv, ra, rc, hk, rfl, rfl, hblk, hnm, hmb, hrow, hcl, hof, hLk, hb, hall⟩ := hrel
    have hsr := hb.size
    by_cases hlt : k < n
    · have hkl : (k : Int) < (n : Int) := by omega
      have hkm : k < vs.length := by rw [HL.out]; exact hlt
      obtain ⟨g1, o1, rfl, hg1, e0w⟩ := HM.out k hkm
      have e0 := (hb.cell (p := ⟨g1, _, none⟩) hg1).trans e0w
      have hsk := HS.out _ (List.getElem_mem hkm)
      have hzr : w.heap.size < wr.heap.size := obj_lt hblk
      have hix := HLow.out vs[k]
      have hbad := of_bad (C := C) k hkm
      have hhit := fun c hc i hi => ofIs_hit (c := c) hkm hof hc (i := i) hi
      have hnew := fun c hc => ofIs_new (c := c) hkm hof hc
      have hallk : (scC C vs[k]).isSome = true → ∀ j (hj : j < vs.length), j < k + 1 → (scC C vs[j]).isSome = true := by
        intro hx j hj hjk
        by_cases e : j = k
        · subst e; exact hx
        · exact hall j hj (by omega)
      obtain ⟨s, hsk2⟩ : ∃ x, vs[k] = x := ⟨_, rfl⟩
      rw [hsk2] at e0 hsk hix hbad hhit hnew hallk
      have HLo := Lib.hid (fun w => show Calls Tryz.prog 38 #[.string ⟨s.toArray⟩] w (StrPost (lowL s) w) from lower_any ⟨s.toArray⟩ w)
      have hll : (lowL s).length ≤ 140737488355328 := by simpa [lowL] using hsk
      obtain ⟨LS, hLS⟩ : ∃ x, lowL s = x := ⟨_, rfl⟩
      rw [hLS] at HLo hix hll
      have HI := Lib.hid (And.intro hblk (And.intro hnm (And.intro hmb (And.intro hrow (And.intro hcl (And.intro hof (And.intro hb hall)))))))
      have HJ := Lib.hid (And.intro hix (And.intro hbad (And.intro hhit (And.intro hnew (And.intro hallk hll)))))
      clear hblk hnm hmb hrow hcl hof hb hall hix hbad hhit hnew hallk hsk hsk2 e0w
      go_wp2_with fail
      refine (HLo.out _).mono ?_
      rintro en w5 ⟨rfl, hb5⟩
      have hbw5 := HI.out.2.2.2.2.2.2.1.trans (hb5.mono hsr)
      have HPk := Lib.hid (HP.out w5 hbw5 LS HJ.out.2.2.2.2.2)
      have HB5 := Lib.hid (And.intro hb5 hbw5)
      have hs5 := hb5.size
      clear hb5 hbw5 e0
      cases hq : ixL (C.map (·.1)) LS with
      | none =>
        rw [hq] at HPk
        have HPk2 := Lib.hid (show Calls Tryz.prog 37 #[.pointer (some ⟨g, 2, none⟩), .string ⟨LS.toArray⟩] w5 (fun en w'' => en = .returned (.tuple #[.int .i64 0, .bool false]) ∧ w5 = w'') from HPk.out)
        have HQ := Lib.hid (HJ.out.2.1 (by rw [HJ.out.1, hq]; rfl))
        clear hq hLS HPk
        go_wp2_with fail
        refine HPk2.out.mono ?_
        rintro en w6 ⟨rfl, rfl⟩
        go_wp2
        go_ret2
        exact ofPost_bad HQ.out HB5.out.2
      | some i =>
        obtain ⟨hi0, hie⟩ := ix_some hq
        have hi : i < C.length := by simpa using hi0
        rw [hq] at HPk
        have HPk2 := Lib.hid (show Calls Tryz.prog 37 #[.pointer (some ⟨g, 2, none⟩), .string ⟨LS.toArray⟩] w5 (fun en w'' => en = .returned (.tuple #[.int .i64 (i : Nat), .bool true]) ∧ w5 = w'') from HPk.out)
        have hsc : scC C s = some C[i] := by rw [HJ.out.1, hq]; exact getD_bind C i hi
        have hCn : C[i].1 = LS := by simpa using hie
        have HSC := Lib.hid (And.intro hsc hCn)
        have hi' : (i : Int) < (nC : Int) := by rw [← HLC.out]; omega
        have hi'' : (0 : Int) ≤ (i : Int) := by omega
        clear hq hLS HPk hie hi0 hsc hCn
        go_wp2_with fail
        refine HPk2.out.mono ?_
        rintro en w6 ⟨rfl, rfl⟩
        go_wp2_with fail
        refine (add_any w.heap.size 0 #[mv] 71 mv (L.map (·.1)) LS w5 (obj_below HI.out.1 HB5.out.1 hzr) rfl (nmAt_below HI.out.2.1 HB5.out.1) (by simp; omega) HJ.out.2.2.2.2.2).mono ?_
        rintro en w8 ⟨hhit, hnew⟩
        have HAd := Lib.hid (And.intro hhit hnew)
        clear hhit hnew
        have hallk := HJ.out.2.2.2.2.1 (by rw [HSC.out.1]; rfl)
        have HAk := Lib.hid hallk
        clear hallk
        cases hq : ixL (L.map (·.1)) LS with
        | some q =>
          obtain ⟨rfl, rfl⟩ := HAd.out.1 q hq
          have HQ := Lib.hid (HJ.out.2.2.1 _ HSC.out.1 q (by rw [HSC.out.2]; exact hq))
          clear hq
          go_wp2
          exact ⟨⟨k + 1, L, Lq, mv, ra, rc, by omega, by go_num, rfl, obj_below HI.out.1 HB5.out.1 hzr, nmAt_below HI.out.2.1 HB5.out.1, HI.out.2.2.1, ownsRow_below HI.out.2.2.2.1 HB5.out.1, HI.out.2.2.2.2.1, HQ.out, by omega, HB5.out.2, HAk.out⟩, by simp [intOf]; omega⟩
        | none =>
          obtain ⟨b, rfl, g8, nm8, hmb8, ch8⟩ := HAd.out.2 hq
          have g8' : w8.heap[w.heap.size]? = some (.cells #[.map (some b)] 71 (0, 0)) := g8
          have hchB : Below w.heap.size w5 w8 := ch8.toBelow (by omega) (fun j _ hj => by
            rcases hj with hj | hj
            · omega
            · have := HI.out.2.2.1 _ hj; omega)
          have hbw8 : Below w.heap.size w w8 := HB5.out.2.trans hchB
          have row5 := ownsRow_below HI.out.2.2.2.1 HB5.out.1
          have nm5 := nmAt_below HI.out.2.1 HB5.out.1
          have row8 := ownsRow_chg row5 ch8 (fun j hj => by
            rintro (h | h)
            · have := (row5.lt j hj).1; omega
            · subst h
              exact row_ne_map row5 nm5 j hj rfl)
          have hmb9 : w.heap.size < b := by
            rcases hmb8 with h | ⟨_, h⟩
            · exact HI.out.2.2.1 _ h
            · omega
          obtain ⟨g2, o2, mu, ma, ea, hg2, c0w, c1w, c2w, tu, ta, su, sa⟩ := HCs.out i hi
          subst ea
          obtain ⟨a3, n3, c3, rfl⟩ := slOk_form su
          obtain ⟨a4, n4, c4, rfl⟩ := slOk_form sa
          have p3 := (hbw8.cell (p := ⟨g, 3, none⟩) hgl).trans HP3.out
          have e0 := (hbw8.cell (p := ⟨g2, _, none⟩) hg2).trans c0w
          have e1 := (hbw8.cell (p := ⟨g2, _, none⟩) hg2).trans c1w
          have e2 := (hbw8.cell (p := ⟨g2, _, none⟩) hg2).trans c2w
          have hcl2 := clsR_snoc HI.out.2.2.2.2.1 C[i] _ _ tu ta su sa
          have hof2 := HJ.out.2.2.2.1 _ HSC.out.1
          obtain ⟨nm, hnmc⟩ : ∃ x, C[i].1 = x := ⟨_, rfl⟩
          rw [hnmc] at e0 hcl2
          have hLn : (L ++ [C[i]]).map (·.1) = L.map (·.1) ++ [LS] := by rw [List.map_append, ← HSC.out.2]; rfl
          obtain ⟨cc, hcc⟩ : ∃ x, C[i] = x := ⟨_, rfl⟩
          rw [hcc] at hcl2 hof2 hLn
          have hs8 : w.heap.size + 1 ≤ w8.heap.size := by have := obj_lt g8'; omega
          have H8 := Lib.hid (And.intro g8' (And.intro nm8 (And.intro row8 (And.intro hbw8 (And.intro hmb9 (And.intro hcl2 (And.intro hof2 hLn)))))))
          clear g8 g8' nm8 hmb8 ch8 hchB hbw8 row5 nm5 row8 hmb9 hcl2 hof2 hLn hq c0w c1w c2w tu ta su sa hnmc hcc
          go_wp2_with (at_builtin; refine wpList_pushc rfl (.tmp 33) (.tmp 41) 30 40 rfl (w.heap.size + 1) 3 64 _ Tryz.sninfo40 Tryz.underlying30 rfl (by decide) [_, _, _] rfl (by intro u hu; simp at hu; rcases hu with rfl | rfl | rfl <;> rfl) (.slice ra L.length rc) L.length (clcs Lq) rfl _ rfl rfl H8.out.2.2.1 (by unfold maxLen; omega) (by omega) hs8 ?_; intro v' w' h1 h2 h3; obtain ⟨na, nc, rfl⟩ := ownsRow_slice h1)
          have hrb : ∀ j, (Value.slice ra L.length rc).ownBlock = some j → w.heap.size < j := fun j hj => by have := (H8.out.2.2.1.lt j hj).1; omega
          have g9 := obj_chg H8.out.1 h2 (fun e => by have := hrb _ e.symm; omega)
          have nm9 := nmAt_chg H8.out.2.1 h2 (fun j hj e => by injection hj with hj; injection hj with hj; exact row_ne_map H8.out.2.2.1 H8.out.2.1 j e.symm hj.symm)
          have hbw9 : Below w.heap.size w w' := H8.out.2.2.2.1.trans (h2.toBelow (by omega) (fun j _ hj => by have := hrb _ hj.symm; omega))
          refine ⟨⟨k + 1, L ++ [cc], Lq ++ [(nm, .slice a3 n3 c3, .slice a4 n4 c4)], .map (some b), na, nc, by omega, by go_num, by rw [List.length_append]; rfl, g9, by rw [H8.out.2.2.2.2.2.2.2]; exact nm9, fun j hj => by injection hj with hj; injection hj with hj; rw [← hj]; exact H8.out.2.2.2.2.1, ?_, ?_, H8.out.2.2.2.2.2.2.1, by rw [List.length_append]; show L.length + 1 ≤ _; omega, hbw9, HAk.out⟩, by simp [intOf]; omega⟩
          · rw [clcs_append, List.length_append]
            exact h1
          · exact H8.out.2.2.2.2.2.1
    · obtain rfl : k = n := by omega
      have hvt : vs.take k = vs := List.take_of_length_le (by rw [HL.out]; exact Nat.le_refl _)
      rw [hvt] at hof
      have H := Lib.hid (And.intro (clAt_ownsR hrow hcl hb) (And.intro hof (And.intro hb (of_good (fun j hj => hall j hj (by rw [← HL.out]; exact hj))))))
      clear hblk hnm hmb hrow hcl hof hb hall hvt
      go_wp2
      go_ret2
      exact ofPost_ok H.out.2.2.2 H.out.1 H.out.2.1 (by rw [HL.out]; exact hLk) H.out.2.2.1
end Go.Proofs.YtcfckgpjdaadeaaGreatDoor
namespace Go.Proofs.YtcfckgpjdaadeaaGreatDoor
set_option linter.unusedSimpArgs false
set_option linter.unusedVariables false
open Go Go.RowKit Go.Proofs.BerK Go.Proofs.MemK Go.Proofs.UtfK

def bls (al : List Bool) : List Value := al.map Value.bool
theorem bls_at (al : List Bool) (i : Nat) (h : i < al.length) : (bls al)[i]? = some (.bool al[i]) := by simp [bls, h]
theorem bls_set (al : List Bool) (i : Nat) (b : Bool) : (bls al).set i (.bool b) = bls (al.set i b) := by simp [bls, List.map_set]
set_option maxHeartbeats 1600000 in
set_option maxRecDepth 100000 in
theorem bidx_any (al : List Bool) (g c : Nat) (e : TypeId) (w : World) (h : w.heap[g]? = some (.cells (bls al).toArray e (0, 0))) (hl : al.length ≤ 1000000) :
    Calls Tryz.prog 108 #[.slice (some ⟨g, 0, none⟩) al.length c, .bool false] w (IxP (al.contains false) w) := by
  have HC := Lib.hid h
  obtain ⟨n, hn⟩ : ∃ n, al.length = n := ⟨_, rfl⟩
  have HL := Lib.hid hn
  have HY := Lib.hid (show ∀ i (hi : i < al.length), al[i] = false → al.contains false = true by
    intro i hi h
    rw [List.contains_eq_mem, decide_eq_true_eq, ← h]
    exact List.getElem_mem hi)
  have HN := Lib.hid (show (∀ i (hi : i < al.length), al[i] = true) → al.contains false = false by
    intro h
    rw [List.contains_eq_mem, decide_eq_false_iff_not]
    intro hm
    obtain ⟨i, hi, e⟩ := List.getElem_of_mem hm
    rw [h i hi] at e; cases e)
  obtain ⟨R, hR⟩ : ∃ R, al.contains false = R := ⟨_, rfl⟩
  rw [hR] at HY HN ⊢
  rw [hn] at hl ⊢
  clear hn hR h
  go_enter Tryz.func108, Tryz.ntmps108
  go_wp2
  go_loop [8] (fun v => ∃ k : Nat, k ≤ n ∧ v = .int .i64 (k : Nat) ∧ ∀ j (hj : j < al.length), j < k → al[j] = true) (fun v => n - (intOf v).toNat)
  case atStart => exact ⟨0, by omega, rfl, fun j _ h => by omega⟩
  case round =>
    obtain ⟨k, hk, rfl, hall⟩ := hrel
    by_cases hlt : k < n
    · have hkl : (k : Int) < (n : Int) := by omega
      have hkm : k < al.length := by rw [HL.out]; exact hlt
      have e0 := obj_cell HC.out k _ (by simpa using bls_at al k hkm)
      have HYk := Lib.hid (HY.out k hkm)
      have HA := Lib.hid (fun (hx : al[k] = true) j (hj : j < al.length) (hjk : j < k + 1) => (show al[j] = true by
        by_cases hjj : j = k
        · subst hjj; exact hx
        · exact hall j hj (by omega)))
      obtain ⟨bq, hbq⟩ : ∃ b, al[k] = b := ⟨_, rfl⟩
      rw [hbq] at e0 HYk HA
      clear hall hbq
      cases bq
      · have H := Lib.hid (HYk.out rfl)
        go_wp2
        go_ret
        exact ⟨_, rfl, by rw [H.out]; simp, rfl⟩
      · have H := Lib.hid (HA.out rfl)
        go_wp2
        exact ⟨⟨k + 1, by omega, by go_num, H.out⟩, by simp [intOf]; omega⟩
    · obtain rfl : k = n := by omega
      have H := Lib.hid (HN.out (fun j hj => hall j hj (by rw [← HL.out]; exact hj)))
      clear hall
      go_wp2
      go_ret
      exact ⟨_, rfl, by rw [H.out]; rfl, rfl⟩
set_option maxHeartbeats 400000 in
theorem bcon_any (al : List Bool) (g c : Nat) (e : TypeId) (w : World) (h : w.heap[g]? = some (.cells (bls al).toArray e (0, 0))) (hl : al.length ≤ 1000000) :
    Calls Tryz.prog 78 #[.slice (some ⟨g, 0, none⟩) al.length c, .bool false] w (PureB (al.contains false) w) := by
  have HC := Lib.hid (bidx_any al g c e w h hl)
  obtain ⟨R, hR⟩ : ∃ R, al.contains false = R := ⟨_, rfl⟩
  rw [hR] at HC ⊢
  clear hR h
  go_enter Tryz.func78, Tryz.ntmps78
  go_wp2_with fail
  refine HC.out.mono ?_
  rintro en w1 ⟨n, rfl, hn, rfl⟩
  have H := Lib.hid hn
  clear hn
  go_wp2
  go_ret
  exact pureB_mk H.out.symm
theorem Tryz.sninfo4 : (Tryz.prog.info? 4).map (fun i => (i.zero, i.size, i.bytes)) = some (some (.bool false), 1, 1) := by kernel_rfl
theorem made_bl (n : Nat) (W : World) (hn : n ≤ 1000000) : (Instr.makeSlice 123 (.int .i64 (n : Int)) (.int .i64 (n : Int))).run Tryz.prog W = .ok (.slice (some ⟨W.heap.size, 0, none⟩) n n) (W.alloc (.cells (bls (List.replicate n false)).toArray 4)) := by
  obtain ⟨i0, hi, hz0, hz1, hz2⟩ := info_parts Tryz.sninfo4
  have h := run_make (P := Tryz.prog) W 123 4 i0 (.bool false) Tryz.underlying123 hi hz0 .i64 .i64 (n : Int) (n : Int) (by omega) (by omega) (by rw [hz2]; omega) (by omega)
  have e : madeCells (Value.bool false).cells ((n : Int).toNat * i0.size) = (bls (List.replicate n false)).toArray := by
    apply Array.ext'
    rw [hz1, show (n : Int).toNat * 1 = n by omega]
    refine (toList_madeCells_one _ n).trans ?_
    simp [bls]
  rw [e] at h
  simpa using h
/-- Which attributes are allowed, as far as told by S. -/
def okA (N : List (List UInt8)) (own : Nat) (S : List (List UInt8)) (al : List Bool) : Prop := al.length = N.length ∧ ∀ i (h1 : i < al.length) (h2 : i < N.length), al[i] = (decide (i = own) || inL S N[i])
theorem inL_app (S T : List (List UInt8)) (x : List UInt8) : inL (S ++ T) x = (inL S x || inL T x) := by unfold inL; rw [List.any_append]
theorem inL_one (m x : List UInt8) : inL [m] x = (m == x) := by simp [inL]
theorem okA_start (N : List (List UInt8)) (own : Nat) (h : own < N.length) : okA N own [] ((List.replicate N.length false).set own true) := by
  refine ⟨by simp, fun i h1 h2 => ?_⟩
  by_cases e : i = own
  · subst e; simp
  · rw [List.getElem_set_ne (fun h => e h.symm)]; simp [e, inL]
theorem okA_hit {N : List (List UInt8)} {own : Nat} {S : List (List UInt8)} {al : List Bool} (hn : N.Nodup) (h : okA N own S al) {m : List UInt8} {i : Nat} (hi : ixL N m = some i) : okA N own (S ++ [m]) (al.set i true) := by
  obtain ⟨hil, hie⟩ := ix_some hi
  refine ⟨by simpa using h.1, fun j h1 h2 => ?_⟩
  rw [inL_app, inL_one]
  by_cases e : j = i
  · subst e
    rw [List.getElem_set_self, hie]; simp
  · rw [List.getElem_set_ne (fun h => e h.symm), h.2 j (by simpa using h1) h2]
    have : (m == N[j]) = false := by
      rw [beq_eq_false_iff_ne]
      intro e2
      rw [← hie] at e2
      exact e ((List.getElem_inj hn).1 e2).symm
    rw [this, Bool.or_false]
theorem okA_miss {N : List (List UInt8)} {own : Nat} {S : List (List UInt8)} {al : List Bool} (h : okA N own S al) {m : List UInt8} (hi : ixL N m = none) : okA N own (S ++ [m]) al := by
  refine ⟨h.1, fun j h1 h2 => ?_⟩
  rw [inL_app, inL_one, h.2 j h1 h2]
  have : (m == N[j]) = false := by
    rw [beq_eq_false_iff_ne]
    intro e2
    exact ix_none hi (e2 ▸ List.getElem_mem h2)
  rw [this, Bool.or_false]
/-- What classes allow. -/
def alS (L : List Cl) : List (List UInt8) := L.flatMap fun c => c.2.1 ++ c.2.2
theorem alS_take (L : List Cl) (k : Nat) (h : k < L.length) : alS (L.take (k + 1)) = alS (L.take k) ++ L[k].2.1 ++ L[k].2.2 := by
  unfold alS
  rw [List.take_succ_eq_append_getElem h, List.flatMap_append]; simp
def fitB (C : List Cl) (N : List (List UInt8)) (A : List Atr) : Bool :=
  match ixL N objL with
  | none => false
  | some own => match A[own]? with
    | none => false
    | some a => ofOk C a.2 && ((a.2.filterMap (scC C)).all fun c => c.2.1.all (inL N)) && (N.all fun x => x == objL || inL (alS (a.2.filterMap (scC C))) x)
theorem fit_none {C : List Cl} {N : List (List UInt8)} {A : List Atr} (h : ixL N objL = none) : fitB C N A = false := by unfold fitB; rw [h]
theorem fit_of {C : List Cl} {N : List (List UInt8)} {A : List Atr} {own : Nat} (h : ixL N objL = some own) (ho : own < A.length) (hf : ofOk C A[own].2 = false) : fitB C N A = false := by
  unfold fitB; rw [h]; simp [ho, hf]
theorem fit_must {C : List Cl} {N : List (List UInt8)} {A : List Atr} {own : Nat} (h : ixL N objL = some own) (ho : own < A.length) {L : List Cl} (hL : OfIs C A[own].2 L) {c : Cl} (hc : c ∈ L) {m : List UInt8} (hm : m ∈ c.2.1) (hx : ixL N m = none) : fitB C N A = false := by
  unfold fitB; rw [h]; simp only [ho, List.getElem?_eq_getElem]
  have : ((A[own].2.filterMap (scC C)).all fun c => c.2.1.all (inL N)) = false := by
    rw [List.all_eq_false]
    obtain ⟨s, hs, hsc⟩ := (hL c).1 hc
    refine ⟨c, List.mem_filterMap.2 ⟨s, hs, hsc⟩, ?_⟩
    rw [Bool.not_eq_true, List.all_eq_false]
    exact ⟨m, hm, by rw [ix_out hx]; simp⟩
  rw [this, Bool.and_false, Bool.false_and]
theorem alS_mem {C : List Cl} {vs : List (List UInt8)} {L : List Cl} (hL : OfIs C vs L) (x : List UInt8) : inL (alS L) x = inL (alS (vs.filterMap (scC C))) x := by
  rw [Bool.eq_iff_iff]
  unfold inL alS
  simp only [List.any_eq_true, List.mem_flatMap, List.mem_filterMap]
  constructor
  · rintro ⟨y, ⟨c, hc, hy⟩, e⟩
    obtain ⟨s, hs, hsc⟩ := (hL c).1 hc
    exact ⟨y, ⟨c, ⟨s, hs, hsc⟩, hy⟩, e⟩
  · rintro ⟨y, ⟨c, ⟨s, hs, hsc⟩, hy⟩, e⟩
    exact ⟨y, ⟨c, (hL c).2 ⟨s, hs, hsc⟩, hy⟩, e⟩
theorem fit_all {C : List Cl} {N : List (List UInt8)} {A : List Atr} {own : Nat} (h : ixL N objL = some own) (ho : own < A.length) (hf : ofOk C A[own].2 = true) {L : List Cl} (hL : OfIs C A[own].2 L) (hm : ∀ c ∈ L, ∀ m ∈ c.2.1, inL N m = true) (hn : N.Nodup) {al : List Bool} (ha : okA N own (alS L) al) : fitB C N A = !al.contains false := by
  obtain ⟨hol, hoe⟩ := ix_some h
  unfold fitB; rw [h]; simp only [ho, List.getElem?_eq_getElem]
  have h1 : ((A[own].2.filterMap (scC C)).all fun c => c.2.1.all (inL N)) = true := by
    rw [List.all_eq_true]
    intro c hc
    obtain ⟨s, hs, hsc⟩ := List.mem_filterMap.1 hc
    rw [List.all_eq_true]
    exact fun m hm' => hm c ((hL c).2 ⟨s, hs, hsc⟩) m hm'
  rw [hf, h1, Bool.true_and, Bool.true_and]
  rw [Bool.eq_iff_iff, List.all_eq_true, Bool.not_eq_true', List.contains_eq_mem, decide_eq_false_iff_not]
  have key : ∀ i (h1 : i < al.length) (h2 : i < N.length), al[i] = (N[i] == objL || inL (alS (A[own].2.filterMap (scC C))) N[i]) := by
    intro i h1 h2
    rw [ha.2 i h1 h2, alS_mem hL]
    congr 1
    by_cases e : i = own
    · subst e; rw [hoe]; simp
    · have : (N[i] == objL) = false := by
        rw [beq_eq_false_iff_ne]
        intro e2
        rw [← hoe] at e2
        exact e ((List.getElem_inj hn).1 e2)
      rw [this]; simp [e]
  constructor
  · intro hx hm
    obtain ⟨i, hi, e⟩ := List.getElem_of_mem hm
    have h2 : i < N.length := by rw [← ha.1]; exact hi
    rw [key i hi h2, hx _ (List.getElem_mem h2)] at e
    cases e
  · intro hx x hm
    obtain ⟨i, hi, rfl⟩ := List.getElem_of_mem hm
    have h2 : i < al.length := by rw [ha.1]; exact hi
    rw [← key i h2 hi]
    cases hq : al[i]
    · exact absurd (hq ▸ List.getElem_mem h2) hx
    · rfl
end Go.Proofs.YtcfckgpjdaadeaaGreatDoor
namespace Go.Proofs.YtcfckgpjdaadeaaGreatDoor
set_option linter.unusedSimpArgs false
set_option linter.unusedVariables false
open Go Go.RowKit Go.Proofs.BerK Go.Proofs.MemK Go.Proofs.UtfK

theorem scC_mem {C : List Cl} {s : List UInt8} {c : Cl} (hlow : LowC C) (h : scC C s = some c) : c ∈ C := by
  unfold scC at h
  obtain ⟨u, hu, rfl⟩ := Option.map_eq_some_iff.1 h
  have := hlow u (List.mem_of_find?_eq_some hu)
  have e : (lowL u.1, u.2.1.map lowL, u.2.2.map lowL) = u := this
  rw [e]
  exact List.mem_of_find?_eq_some hu
set_option maxHeartbeats 12800000 in
set_option maxRecDepth 100000 in
theorem fits_any (g : Nat) (T : List Ty) (C : List Cl) (A : List Atr) (N : List (List UInt8)) (v : Value) (q0 : Option Nat) (w : World) (h : ScAt w g T C) (hlow : LowC C) (hlen : C.length ≤ 1024) (hA : AtAt w v A) (hNm : NmAt w (.map q0) N) (hNl : N.length = A.length) (hnd : N.Nodup)
    (hl : A.length ≤ 1000000) (hv : ∀ a ∈ A, a.2.length ≤ 1000000 ∧ ∀ s ∈ a.2, s.length ≤ 140737488355328) (hlm : ∀ c ∈ C, c.2.1.length ≤ 1000000 ∧ c.2.2.length ≤ 1000000) (hs : ∀ c ∈ C, (∀ s ∈ c.2.1, s.length ≤ 140737488355328) ∧ ∀ s ∈ c.2.2, s.length ≤ 140737488355328) :
    Calls Tryz.prog 50 #[.pointer (some ⟨g, 0, none⟩), v, .agg #[.map q0]] w (BB (fitB C N A) w) := by
  have HFn := Lib.hid (fit_none (C := C) (N := N) (A := A))
  have hgl := scAt_lt h
  have hb1 : Below w.heap.size w (w.alloc (.cells #[.map q0] 71)) := (Below.refl _ w).alloc (Nat.le_refl _) _
  have x0 : (w.alloc (.cells #[.map q0] 71)).heap[w.heap.size]? = some (.cells #[.map q0] 71 (0, 0)) := heap_alloc_new w _
  obtain ⟨W1, hW1⟩ : ∃ W1, w.alloc (.cells #[.map q0] 71) = W1 := ⟨_, rfl⟩
  rw [hW1] at hb1 x0
  have HP := Lib.hid (fun w' (hb : Below W1.heap.size W1 w') s (hs : s.length ≤ 140737488355328) => (show Calls Tryz.prog 37 #[.pointer (some ⟨w.heap.size, 0, none⟩), .string ⟨s.toArray⟩] w' (PlPost (ixL N s) w') from
    place_any w.heap.size 0 (.map q0) N s w' (obj_cell (obj_below x0 hb (obj_lt x0)) 0 _ rfl) (nmAt_below hNm (hb1.trans (hb.mono hb1.size))) hs))
  have HW1 := Lib.hid hW1
  obtain ⟨a, c, rfl, hcells⟩ := hA
  have HM := Lib.hid hcells
  have HV := Lib.hid hv
  have HO := Lib.hid (fun vs vv w' (hb : Below w.heap.size w w') (ht : TxR w' vv vs) (hl : vs.length ≤ 1000000) (hs : ∀ s ∈ vs, s.length ≤ 140737488355328) => of_any g T C vs vv w' (scAt_below h hb) hlow hlen ht hl hs)
  obtain ⟨n, hn⟩ : ∃ n, A.length = n := ⟨_, rfl⟩
  have HL := Lib.hid hn
  have HNl := Lib.hid hNl
  have HNd := Lib.hid hnd
  have HLm := Lib.hid hlm
  have HLs := Lib.hid hs
  have HB1 := Lib.hid hb1
  have hz1 : w.heap.size < W1.heap.size := obj_lt x0
  rw [hn] at hl ⊢
  have hmk := fun W => made_bl n W hl
  cases hq : ixL N objL with
  | none =>
    have HPo := Lib.hid (show Calls Tryz.prog 37 #[.pointer (some ⟨w.heap.size, 0, none⟩), .string ⟨#[111, 98, 106, 101, 99, 116, 99, 108, 97, 115, 115]⟩] W1 (fun en w'' => en = .returned (.tuple #[.int .i64 0, .bool false]) ∧ W1 = w'') from by
      have := HP.out W1 (Below.refl _ _) objL (by decide)
      rw [hq] at this; exact this)
    have HQ := Lib.hid (HFn.out hq)
    clear hq h hNm hcells hv hn hNl hnd hlm hs hb1 x0 hW1 hmk
    go_enter Tryz.func50, Tryz.ntmps50
    go_wp2_with fail
    rw [HW1.out]
    refine HPo.out.mono ?_
    rintro en w2 ⟨rfl, rfl⟩
    go_wp2
    go_ret
    exact bB_mk HQ.out HB1.out
  | some own =>
    have hown := ix_lt hq
    have hownA : own < A.length := by omega
    have hownn : own < n := by omega
    have hoi : (own : Int) < (n : Int) := by omega
    have hoi0 : (0 : Int) ≤ (own : Int) := by omega
    have HPo := Lib.hid (show Calls Tryz.prog 37 #[.pointer (some ⟨w.heap.size, 0, none⟩), .string ⟨#[111, 98, 106, 101, 99, 116, 99, 108, 97, 115, 115]⟩] W1 (fun en w'' => en = .returned (.tuple #[.int .i64 (own : Nat), .bool true]) ∧ W1 = w'') from by
      have := HP.out W1 (Below.refl _ _) objL (by decide)
      rw [hq] at this; exact this)
    obtain ⟨g1, o1, vl, rfl, hg1, e0w, e1w, tvl⟩ := HM.out own hownA
    have hvl := HV.out _ (List.getElem_mem hownA)
    have e1 := (hb1.cell (p := ⟨g1, _, none⟩) hg1).trans e1w
    have HOf := Lib.hid (fun w' (hb : Below W1.heap.size W1 w') => HO.out A[own].2 vl w' (hb1.trans (hb.mono hb1.size)) (txR_below (txR_below tvl hb1) hb) hvl.1 hvl.2)
    obtain ⟨va, vc, rfl, _⟩ := tvl
    obtain ⟨m, hm⟩ : ∃ m, A[own].2.length = m := ⟨_, rfl⟩
    rw [hm] at e1 HOf
    have HFo := Lib.hid (fit_of (C := C) hq hownA)
    have HFm := Lib.hid (fun L hL c hc mm hmm hx => fit_must (C := C) hq hownA (L := L) hL (c := c) hc (m := mm) hmm hx)
    have HFa := Lib.hid (fun hf L hL hm al ha => fit_all (C := C) hq hownA hf (L := L) hL hm hnd (al := al) ha)
    obtain ⟨R, hR⟩ : ∃ R, fitB C N A = R := ⟨_, rfl⟩
    rw [hR] at HFo HFm HFa ⊢
    clear HFn hq h hNm hcells hv hn hNl hnd hlm hs hb1 x0 hW1 e0w e1w hm hR hvl
    have hz1g : g1 < W1.heap.size := by omega
    have HE1 := Lib.hid e1
    cases hf : ofOk C A[own].2 with
    | false =>
      have HOf0 := Lib.hid (fun w' (hb : Below W1.heap.size W1 w') => (HOf.out w' hb).mono (R' := fun en w'' => en = .returned (.tuple #[.slice none 0 0, .bool false]) ∧ Below w'.heap.size w' w'') (fun en w'' h => ⟨h.1 hf, h.2.2⟩))
      have HQ := Lib.hid (HFo.out hf)
      clear hf HOf HFo HFm HFa
      go_enter Tryz.func50, Tryz.ntmps50
      go_wp2_with fail
      rw [HW1.out]
      refine HPo.out.mono ?_
      rintro en w2 ⟨rfl, rfl⟩
      go_wp2
      go_region_held3 (fun w' => w'.cell? ⟨g1, o1 + own * 2 + 1, none⟩ = some (.slice va m vc)) (first | exact f1 | exact e1 | go_keep)
        (first | (go_at_call 77; (with_reducible refine (HOf0.out _ (Below.refl _ W1).drew).mono ?_); rintro en w5 ⟨rfl, hb5⟩; have hbX : Below W1.heap.size W1 w5 := (Below.refl _ W1).drew.trans hb5; have f1 := (hbX.cell (p := ⟨g1, _, none⟩) hz1g).trans HE1.out))
      have HB5 := Lib.hid (HB1.out.trans (hbX.mono HB1.out.size))
      clear hb5 hbX f1 e1
      go_wp2
      go_ret
      exact bB_mk HQ.out HB5.out
    | true =>
      have HOf1 := Lib.hid (fun w' (hb : Below W1.heap.size W1 w') => (HOf.out w' hb).mono (R' := fun en w'' => ∃ ra rc L, en = .returned (.tuple #[.slice ra (List.length L) rc, .bool true]) ∧ ClAt w'' (.slice ra L.length rc) L ∧ OfIs C A[own].2 L ∧ L.length ≤ A[own].2.length ∧ Below w'.heap.size w' w'') (fun en w'' h => by
        obtain ⟨v, L, e, hc, h3, h4⟩ := h.2.1 hf
        obtain ⟨ra, rc, rfl, hx⟩ := id hc
        exact ⟨ra, rc, L, e, hc, h3, h4, h.2.2⟩))
      have HFa2 := Lib.hid (fun L hL hm al ha => HFa.out hf L hL hm al ha)
      have hvln : A[own].2.length ≤ 1000000 := (HV.out _ (List.getElem_mem hownA)).1
      clear hf HOf HFo HFa
      go_enter Tryz.func50, Tryz.ntmps50
      go_wp2_with fail
      rw [HW1.out]
      refine HPo.out.mono ?_
      rintro en w2 ⟨rfl, rfl⟩
      go_wp2
      go_region_held3 (fun w' => w'.cell? ⟨g1, o1 + own * 2 + 1, none⟩ = some (.slice va m vc)) (first | exact f1 | exact e1 | go_keep)
        (first | (go_at_call 77; (with_reducible refine (HOf1.out _ (Below.refl _ W1).drew).mono ?_); rintro en w5 ⟨ra, rc, L, rfl, hcl, hof, hLl, hb5⟩; have hbX : Below W1.heap.size W1 w5 := (Below.refl _ W1).drew.trans hb5; have f1 := (hbX.cell (p := ⟨g1, _, none⟩) hz1g).trans HE1.out))
      have hb5w : Below w.heap.size w w5 := HB1.out.trans (hbX.mono HB1.out.size)
      have hL1 : L.length ≤ 1000000 := by omega
      obtain ⟨B, hB⟩ : ∃ B, w5.heap.size = B := ⟨_, rfl⟩
      obtain ⟨M, hM⟩ : ∃ M, (bls (List.replicate n false)).toArray = M := ⟨_, rfl⟩
      rw [hM] at hmk
      have hMo : M[own]? = some (.bool false) := by rw [← hM]; simp [bls, hownn]
      obtain ⟨W7, hW7⟩ : ∃ W7, w5.alloc (.cells (M.setIfInBounds own (.bool true)) 4) = W7 := ⟨_, rfl⟩
      have hb57 : Below w5.heap.size w5 W7 := by rw [← hW7]; exact (Below.refl _ w5).alloc (Nat.le_refl _) _
      have x7 : W7.heap[B]? = some (.cells (bls ((List.replicate n false).set own true)).toArray 4 (0, 0)) := by
        rw [← hW7, ← hM, List.setIfInBounds_toArray, bls_set, ← hB]; exact heap_alloc_new w5 _
      have hok := okA_start N own (by rw [HNl.out, HL.out]; exact hownn)
      rw [HNl.out, HL.out] at hok
      have hz15 : W1.heap.size ≤ w5.heap.size := hbX.size
      have HW7 := Lib.hid hW7
      have HBw := Lib.hid (And.intro hbX (And.intro hb5w hb57))
      have HOF := Lib.hid hof
      have HX7 := Lib.hid (And.intro x7 hok)
      have hB7 : B < W7.heap.size := obj_lt x7
      have HBeq := Lib.hid hB
      obtain ⟨ra', rc', ecl, hcells⟩ := hcl
      injection ecl with ec1 ec2 ec3
      subst ec1 ec3
      have HCs := Lib.hid hcells
      have HLb := Lib.hid (show ∀ c ∈ L, (c.2.1.length ≤ 1000000 ∧ c.2.2.length ≤ 1000000) ∧ (∀ s ∈ c.2.1, s.length ≤ 140737488355328) ∧ ∀ s ∈ c.2.2, s.length ≤ 140737488355328 by
        intro c hc
        obtain ⟨s, _, hsc⟩ := (hof c).1 hc
        have := scC_mem hlow hsc
        exact ⟨HLm.out c this, HLs.out c this⟩)
      obtain ⟨nL, hnL⟩ : ∃ n, L.length = n := ⟨_, rfl⟩
      have HnL := Lib.hid hnL
      rw [hnL] at hL1
      rw [hnL]
      have hz1B : W1.heap.size ≤ B := by omega
      clear hb5 hbX f1 e1 hof hLl hb5w x7 hb57 hok hW7 hM hcells hvln hnL hlow ec2
      go_wp2
      rw [HW7.out]
      clear hMo hmk
      have hBW5 : ∀ wr, Below B W7 wr → Below B w5 wr := fun wr hb => by have := HBw.out.2.2; rw [HBeq.out] at this; exact this.trans hb
      have HBW5 := Lib.hid hBW5
      clear hBW5
      go_loopw [49] (fun v wr => ∃ (k : Nat) (al : List Bool), k ≤ nL ∧ v = .int .i64 (k : Nat) ∧ wr.heap[B]? = some (.cells (bls al).toArray 4 (0, 0)) ∧ okA N own (alS (L.take k)) al ∧ (∀ j (hj : j < L.length), j < k → ∀ m ∈ L[j].2.1, inL N m = true) ∧ Below B W7 wr) (fun v _ => nL - (intOf v).toNat)
      case atStart => exact ⟨0, _, by omega, rfl, HX7.out.1, HX7.out.2, fun j _ h => by omega, Below.refl _ _⟩
      case round =>
        obtain ⟨k, al, hk, rfl, hblk, hok, hmu, hb⟩ := hrel
        obtain ⟨wo, rfl⟩ : ∃ wo, wo = wr := ⟨_, rfl⟩
        have hBo : B < wo.heap.size := obj_lt hblk
        have hb5o := HBW5.out wo hb
        by_cases hlt : k < nL
        · have hkl : (k : Int) < (nL : Int) := by omega
          have hkm : k < L.length := by rw [HnL.out]; exact hlt
          obtain ⟨g2, o2, mu, ma, rfl, hg2, c0w, c1w, c2w, tu, ta, su, sa⟩ := HCs.out k hkm
          have hg2B : g2 < B := by rw [← HBeq.out]; exact hg2
          have c0 := (hb5o.cell (p := ⟨g2, _, none⟩) hg2B).trans c0w
          have c1 := (hb5o.cell (p := ⟨g2, _, none⟩) hg2B).trans c1w
          have c2 := (hb5o.cell (p := ⟨g2, _, none⟩) hg2B).trans c2w
          have hcb := HLb.out _ (List.getElem_mem hkm)
          have hcm : L[k] ∈ L := List.getElem_mem hkm
          have hat := alS_take L k hkm
          have hmu2 : (∀ m ∈ L[k].2.1, inL N m = true) → ∀ j (hj : j < L.length), j < k + 1 → ∀ m ∈ L[j].2.1, inL N m = true := by
            intro hx j hj hjk
            by_cases e : j = k
            · subst e; exact hx
            · exact hmu j hj (by omega)
          have HFk := Lib.hid (fun (mm : List UInt8) (hmm : mm ∈ (L[k]'hkm).2.1) (hx : ixL N mm = none) => HFm.out L HOF.out (L[k]'hkm) hcm mm hmm hx)
          obtain ⟨nm, hnm⟩ : ∃ x, L[k].1 = x := ⟨_, rfl⟩
          obtain ⟨MU, hMU⟩ : ∃ x, L[k].2.1 = x := ⟨_, rfl⟩
          obtain ⟨MA, hMA⟩ : ∃ x, L[k].2.2 = x := ⟨_, rfl⟩
          rw [hnm] at c0
          rw [hMU] at tu hcb hat hmu2 HFk
          rw [hMA] at ta hcb hat
          obtain ⟨a3, c3, rfl, tux⟩ := tu
          obtain ⟨a4, c4, rfl, tax⟩ := ta
          have HTU := Lib.hid tux
          have HTA := Lib.hid tax
          obtain ⟨n3, hn3⟩ : ∃ x, MU.length = x := ⟨_, rfl⟩
          obtain ⟨n4, hn4⟩ : ∃ x, MA.length = x := ⟨_, rfl⟩
          have HN3 := Lib.hid hn3
          have HN4 := Lib.hid hn4
          rw [hn3] at c1 hcb
          rw [hn4] at c2 hcb
          have hn3l := hcb.1.1
          have hn4l := hcb.1.2
          have HCB := Lib.hid hcb.2
          obtain ⟨W8, hW8⟩ : ∃ W8, wo.alloc (.cells #[.string ⟨nm.toArray⟩, .slice a3 n3 c3, .slice a4 n4 c4] 40) = W8 := ⟨_, rfl⟩
          have hb8 : Below wo.heap.size wo W8 := by rw [← hW8]; exact (Below.refl _ wo).alloc (Nat.le_refl _) _
          have y8 : W8.heap[wo.heap.size]? = some (.cells #[.string ⟨nm.toArray⟩, .slice a3 n3 c3, .slice a4 n4 c4] 40 (0, 0)) := by rw [← hW8]; exact heap_alloc_new wo _
          obtain ⟨i0, i1, i2⟩ := obj3 y8
          have HW8 := Lib.hid hW8
          have HI := Lib.hid (And.intro hblk (And.intro hok (And.intro hmu2 (And.intro hb (And.intro hb8 (And.intro y8 hat))))))
          clear hblk hok hmu hb hb5o c0w c1w c2w hcb hcm hmu2 hnm hMU hMA tux tax hn3 hn4 hW8 hb8 y8 su sa hat
          go_wp2
          rw [HW8.out]
          clear i0 i1 i2 c0 c1 c2
          go_loopw [56] (fun v wz => ∃ (j : Nat) (al : List Bool), j ≤ n3 ∧ v = .int .i64 (j : Nat) ∧ wz.heap[B]? = some (.cells (bls al).toArray 4 (0, 0)) ∧ okA N own (alS (L.take k) ++ MU.take j) al ∧ (∀ q (hq : q < MU.length), q < j → inL N MU[q] = true) ∧ Below B wo wz ∧ wz.heap[wo.heap.size]? = some (.cells #[.string ⟨nm.toArray⟩, .slice a3 n3 c3, .slice a4 n4 c4] 40 (0, 0))) (fun v _ => n3 - (intOf v).toNat)
          case atStart => exact ⟨0, al, by omega, rfl, obj_below HI.out.1 HI.out.2.2.2.2.1 hBo, by rw [List.take_zero, List.append_nil]; exact HI.out.2.1, fun q _ h => by omega, HI.out.2.2.2.2.1.mono (Nat.le_of_lt hBo), HI.out.2.2.2.2.2.1⟩
          case round =>
            obtain ⟨j, al2, hj, rfl, hblk, hok, hgood, hbz, hy⟩ := hrel
            have hBz : B < wr.heap.size := obj_lt hblk
            have hb5z := HBW5.out wr (HI.out.2.2.2.1.trans hbz)
            by_cases hjl : j < n3
            · have hji : (j : Int) < (n3 : Int) := by omega
              have hjm : j < MU.length := by rw [HN3.out]; exact hjl
              obtain ⟨g3, o3, rfl, hg3, vw⟩ := HTU.out j hjm
              have v0 := (hb5z.cell (p := ⟨g3, _, none⟩) (by show g3 < B; rw [← HBeq.out]; exact hg3)).trans vw
              have hmem : MU[j] ∈ MU := List.getElem_mem hjm
              have hsl := HCB.out.1 _ hmem
              have hFj := HFk.out _ hmem
              have hts := List.take_succ_eq_append_getElem hjm
              have hgood2 : inL N MU[j] = true → ∀ q (hq : q < MU.length), q < j + 1 → inL N MU[q] = true := by
                intro hx q hq hqj
                by_cases e : q = j
                · subst e; exact hx
                · exact hgood q hq (by omega)
              obtain ⟨s, hs⟩ : ∃ s, MU[j] = s := ⟨_, rfl⟩
              rw [hs] at v0 hsl hFj hts hgood2
              have hb1z : Below W1.heap.size W1 wr := HBw.out.1.trans (hb5z.mono hz1B)
              have hPs := HP.out wr hb1z s hsl
              have HJ := Lib.hid (And.intro hblk (And.intro hok (And.intro hbz (And.intro hy (And.intro hts hgood2)))))
              have hall : al2.length = n := by rw [hok.1, HNl.out, HL.out]
              cases hq : ixL N s with
              | none =>
                rw [hq] at hPs
                have HPs := Lib.hid (show Calls Tryz.prog 37 #[.pointer (some ⟨w.heap.size, 0, none⟩), .string ⟨s.toArray⟩] wr (fun en w'' => en = .returned (.tuple #[.int .i64 0, .bool false]) ∧ wr = w'') from hPs)
                have HQ := Lib.hid (And.intro (hFj hq) (HBw.out.2.1.trans (hb5z.mono (by omega))))
                clear hq hPs hblk hok hgood hbz hy hb5z vw hsl hFj hts hgood2 hb1z hmem hs
                go_wp2_with fail
                refine HPs.out.mono ?_
                rintro en w9 ⟨rfl, rfl⟩
                go_wp2
                go_ret
                exact bB_mk HQ.out.1 HQ.out.2
              | some i =>
                rw [hq] at hPs
                have HPs := Lib.hid (show Calls Tryz.prog 37 #[.pointer (some ⟨w.heap.size, 0, none⟩), .string ⟨s.toArray⟩] wr (fun en w'' => en = .returned (.tuple #[.int .i64 (i : Nat), .bool true]) ∧ wr = w'') from hPs)
                have hil := ix_lt hq
                have hin : i < n := by rw [← HL.out, ← HNl.out]; exact hil
                have hii : (i : Int) < (n : Int) := by omega
                have hii0 : (0 : Int) ≤ (i : Int) := by omega
                have hial : i < al2.length := by rw [hall]; exact hin
                have b0 := obj_cell hblk i _ (by simpa using bls_at al2 i hial)
                have b1 := obj_free hblk i
                have HQ := Lib.hid (And.intro (okA_hit HNd.out hok hq) (hgood2 (ix_in hq)))
                clear hq hPs hblk hok hgood hbz hy hb5z vw hsl hFj hts hgood2 hb1z hmem hs
                go_wp2_with fail
                refine HPs.out.mono ?_
                rintro en w9 ⟨rfl, rfl⟩
                go_wp2
                refine ⟨⟨j + 1, al2.set i true, by omega, by go_num, ?_, ?_, HQ.out.2, HJ.out.2.2.1.setCell (p := ⟨B, i, none⟩) (Nat.le_refl _) _, obj_set_other HJ.out.2.2.2.1 (by show wo.heap.size ≠ B; omega) _⟩, by simp [intOf]; omega⟩
                · have := obj_set HJ.out.1 i (.bool true)
                  rw [List.setIfInBounds_toArray, bls_set] at this
                  exact this
                · rw [HJ.out.2.2.2.2.1, ← List.append_assoc]; exact HQ.out.1
            · obtain rfl : j = n3 := by omega
              have hMt : MU.take j = MU := List.take_of_length_le (by rw [HN3.out]; exact Nat.le_refl _)
              rw [hMt] at hok
              obtain ⟨wi, rfl⟩ : ∃ wi, wi = wr := ⟨_, rfl⟩
              have HK := Lib.hid (And.intro hblk (And.intro hok (And.intro hbz (And.intro hy (HI.out.2.2.1 (fun mm hmm => by
                obtain ⟨q, hq, rfl⟩ := List.getElem_of_mem hmm
                exact hgood q hq (by rw [HN3.out] at hq; exact hq)))))))
              obtain ⟨i0, i1, i2⟩ := obj3 hy
              clear hblk hok hgood hbz hy hb5z hMt
              go_wp2
              clear i0 i1 i2
              have hBi : B < wi.heap.size := obj_lt HK.out.1
              go_loopw [74] (fun v wz => ∃ (j : Nat) (al : List Bool), j ≤ n4 ∧ v = .int .i64 (j : Nat) ∧ wz.heap[B]? = some (.cells (bls al).toArray 4 (0, 0)) ∧ okA N own (alS (L.take k) ++ MU ++ MA.take j) al ∧ Below B wi wz) (fun v _ => n4 - (intOf v).toNat)
              case atStart => exact ⟨0, al2, by omega, rfl, HK.out.1, by rw [List.take_zero, List.append_nil]; exact HK.out.2.1, Below.refl _ _⟩
              case round =>
                obtain ⟨j2, al3, hj2, rfl, hblk, hok, hbz⟩ := hrel
                have hBz : B < wr.heap.size := obj_lt hblk
                have hb5z := HBW5.out wr ((HI.out.2.2.2.1.trans HK.out.2.2.1).trans hbz)
                by_cases hjl2 : j2 < n4
                · have hji : (j2 : Int) < (n4 : Int) := by omega
                  have hjm : j2 < MA.length := by rw [HN4.out]; exact hjl2
                  obtain ⟨g3, o3, rfl, hg3, vw⟩ := HTA.out j2 hjm
                  have v0 := (hb5z.cell (p := ⟨g3, _, none⟩) (by show g3 < B; rw [← HBeq.out]; exact hg3)).trans vw
                  have hmem : MA[j2] ∈ MA := List.getElem_mem hjm
                  have hsl := HCB.out.2 _ hmem
                  have hts := List.take_succ_eq_append_getElem hjm
                  obtain ⟨s, hs⟩ : ∃ s, MA[j2] = s := ⟨_, rfl⟩
                  rw [hs] at v0 hsl hts
                  have hb1z : Below W1.heap.size W1 wr := HBw.out.1.trans (hb5z.mono hz1B)
                  have hPs := HP.out wr hb1z s hsl
                  have HJ := Lib.hid (And.intro hblk (And.intro hok (And.intro hbz hts)))
                  have hall : al3.length = n := by rw [hok.1, HNl.out, HL.out]
                  cases hq : ixL N s with
                  | none =>
                    rw [hq] at hPs
                    have HPs := Lib.hid (show Calls Tryz.prog 37 #[.pointer (some ⟨w.heap.size, 0, none⟩), .string ⟨s.toArray⟩] wr (fun en w'' => en = .returned (.tuple #[.int .i64 0, .bool false]) ∧ wr = w'') from hPs)
                    have HQ := Lib.hid (okA_miss hok hq)
                    clear hq hPs hblk hok hbz hb5z vw hsl hts hb1z hmem hs
                    go_wp2_with fail
                    refine HPs.out.mono ?_
                    rintro en w9 ⟨rfl, rfl⟩
                    go_wp2
                    refine ⟨⟨j2 + 1, al3, by omega, by go_num, HJ.out.1, ?_, HJ.out.2.2.1⟩, by simp [intOf]; omega⟩
                    rw [HJ.out.2.2.2, ← List.append_assoc]; exact HQ.out
                  | some i =>
                    rw [hq] at hPs
                    have HPs := Lib.hid (show Calls Tryz.prog 37 #[.pointer (some ⟨w.heap.size, 0, none⟩), .string ⟨s.toArray⟩] wr (fun en w'' => en = .returned (.tuple #[.int .i64 (i : Nat), .bool true]) ∧ wr = w'') from hPs)
                    have hil := ix_lt hq
                    have hin : i < n := by rw [← HL.out, ← HNl.out]; exact hil
                    have hii : (i : Int) < (n : Int) := by omega
                    have hii0 : (0 : Int) ≤ (i : Int) := by omega
                    have hial : i < al3.length := by rw [hall]; exact hin
                    have b0 := obj_cell hblk i _ (by simpa using bls_at al3 i hial)
                    have b1 := obj_free hblk i
                    have HQ := Lib.hid (okA_hit HNd.out hok hq)
                    clear hq hPs hblk hok hbz hb5z vw hsl hts hb1z hmem hs
                    go_wp2_with fail
                    refine HPs.out.mono ?_
                    rintro en w9 ⟨rfl, rfl⟩
                    go_wp2
                    refine ⟨⟨j2 + 1, al3.set i true, by omega, by go_num, ?_, ?_, HJ.out.2.2.1.setCell (p := ⟨B, i, none⟩) (Nat.le_refl _) _⟩, by simp [intOf]; omega⟩
                    · have := obj_set HJ.out.1 i (.bool true)
                      rw [List.setIfInBounds_toArray, bls_set] at this
                      exact this
                    · rw [HJ.out.2.2.2, ← List.append_assoc]; exact HQ.out
                · obtain rfl : j2 = n4 := by omega
                  have hMt : MA.take j2 = MA := List.take_of_length_le (by rw [HN4.out]; exact Nat.le_refl _)
                  rw [hMt] at hok
                  have HZ := Lib.hid (And.intro hblk (And.intro hok ((HI.out.2.2.2.1.trans HK.out.2.2.1).trans hbz)))
                  clear hblk hok hbz hb5z hMt
                  go_wp2
                  refine ⟨⟨k + 1, al3, by omega, by go_num, HZ.out.1, ?_, HK.out.2.2.2.2, HZ.out.2.2⟩, by simp [intOf]; omega⟩
                  rw [HI.out.2.2.2.2.2.2]
                  exact HZ.out.2.1
        · obtain rfl : k = nL := by omega
          have hLt : L.take k = L := List.take_of_length_le (by rw [HnL.out]; exact Nat.le_refl _)
          rw [hLt] at hok
          have hall : al.length = n := by rw [hok.1, HNl.out, HL.out]
          have hR2 := HFa2.out L HOF.out (fun c hc m hm => by
            obtain ⟨i, hi, rfl⟩ := List.getElem_of_mem hc
            exact hmu i hi (by rw [HnL.out] at hi; exact hi) m hm) al hok
          have hC := bcon_any al B n _ wo hblk (by rw [hall]; exact hl)
          rw [hall] at hC
          have HC := Lib.hid hC
          have HQ := Lib.hid (And.intro hR2 (HBw.out.2.1.trans (hb5o.mono (by omega))))
          obtain ⟨bq, hbq⟩ : ∃ b, al.contains false = b := ⟨_, rfl⟩
          rw [hbq] at HC HQ
          clear hblk hok hmu hb hb5o hLt hC hR2 hbq
          go_wp2_with fail
          refine HC.out.mono ?_
          rintro en w9 ⟨rfl, hw⟩
          obtain rfl := hw.symm
          go_wp2
          go_ret
          exact bB_mk HQ.out.1 HQ.out.2
end Go.Proofs.YtcfckgpjdaadeaaGreatDoor
