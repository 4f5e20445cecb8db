/- Sets of texts: a map that holds names and nothing else. The code's once and lower. Attributes in memory whose lists may be put behind others; the code's Get. -/
import Derived.Test.YtpkbgkoocijegaaGreatDoorEnMP
import Derived.Test.YtpkbgkoocijegaaGreatDoorSnAL
import Derived.Maps.OwnSet
import Derived.Maps.Views
import Derived.MapKept
import Derived.Test.YtpkbgkoocijegaaGreatDoorScAD
set_option linter.unusedVariables false
set_option linter.unusedSimpArgs false
set_option maxHeartbeats 25600000
set_option maxRecDepth 100000
namespace Go.Proofs.YtpkbgkoocijegaaGreatDoor
open Go Go.RowKit Go.Proofs.BerK Go.Proofs.MemK Go.Proofs.UtfK Go.Maps Go.WideMaps
theorem run_makeMap_hint {P : Program} (t k e : TypeId) (ht : P.underlying t = some (.map k e)) (q : IntKind) (n : Int) (w : World) : (Instr.makeMap t (some (.int q n))).run P w = .ok (.map (some w.heap.size)) (w.alloc (.map #[] 0)) := by
 simp [Instr.makeMap, run_underlying ht, asInt, asIntOf, Result.andThen]
def StIs (D : DataW Unit) (N : List (List UInt8)) : Prop := ∀ s : List UInt8, Maps.has D (.string s) = inL N s
theorem enzero (w : World) : (zeroValue 193).run Tryz.prog w = .ok (.agg #[]) w := by kernel_rfl
theorem stIs_nil : StIs (.map []) [] := fun s => rfl
theorem stIs_put {D : DataW Unit} {N N' : List (List UInt8)} {s : List UInt8} (hT : Tidy D) (h : StIs D N) (hN : ∀ y, y ∈ N' ↔ y ∈ N \/ y = s) : StIs (D.put (.string s) (.agg [])) N' := by
 intro k
 by_cases e : k = s
 ·subst e
  rw [has_put_same hT.isMap snIsKey]
  exact (inL_mem.2 ((hN _).2 (.inr rfl))).symm
 ·rw [has_put_other (fun q => e (by injection q)), h, Bool.eq_iff_iff, inL_mem, inL_mem, hN]
  simp [e]
def StAt (w : World) (b : Nat) (n : Nat) (N : List (List UInt8)) : Prop :=
 ∃ D, w.ownsMap Tryz.prog 9 (unitElem (H := Unit)) b n D /\ StIs D N
theorem stAt_block {w w' : World} {b n : Nat} {N : List (List UInt8)} (h : StAt w b n N) (hb : w'.heap[b]? = w.heap[b]?) : StAt w' b n N := by
 obtain ⟨D, ⟨es, clock, hq, F, hs', hD⟩, hN⟩ := h
 exact ⟨D, ⟨es, clock, hb.trans hq, F, hs', hD⟩, hN⟩
theorem stAt_below {w w' : World} {B b n : Nat} {N : List (List UInt8)} (h : StAt w b n N) (hb : Below B w w') (hB : b < B) : StAt w' b n N := stAt_block h (hb.block b hB)
theorem stAt_look {w : World} {b n : Nat} {N : List (List UInt8)} (h : StAt w b n N) (s : List UInt8) (hs : s.length <= 140737488355328) :
  (Instr.lookup 192 (.map (some b)) (.string ⟨s.toArray⟩) true).run Tryz.prog w = .ok (.tuple #[.agg #[], .bool (inL N s)]) w := by
 obtain ⟨D, h, hD⟩ := h
 obtain ⟨v, ps, hrun, hv⟩ := h.look_ok snlaw Tryz.underlying192 (enzero w) unitElem_mk (snkey s hs)
 rw [hrun]
 obtain ⟨rfl, _⟩ := unitElem_inv hv
 rw [hD]
theorem row_ne_below {w : World} {base : Nat} {e : TypeId} {size : Nat} {v : Value} {n : Nat} {xs : List Value} (h : w.ownsRow base e size v n xs) {b : Nat} (hb : b < base) : some b ≠ v.ownBlock := fun e1 => by
 have := (h.lt b e1.symm).1
 omega
def OnPost (l : List (List UInt8)) (w : World) (en : Ending) (w' : World) : Prop := ∃ v, en = .returned v /\ w'.ownsRow w.heap.size 9 1 v l.length (sc l) /\ Below w.heap.size w w'
theorem on_step {l : List (List UInt8)} (k : Nat) (hk : k < l.length) : onL (l.take (k + 1)) = onS1 (onL (l.take k)) l[k] := by
 rw [List.take_succ_eq_append_getElem hk, on_snoc]
theorem sc_snoc1 (A : List (List UInt8)) (x : List UInt8) : sc (A ++ [x]) = sc A ++ [.string ⟨x.toArray⟩] := by simp [sc]
theorem on_len (l : List (List UInt8)) (k : Nat) : (onL (l.take k)).length <= k := by
 have gen : ∀ (b acc : List (List UInt8)), (b.foldl onS1 acc).length <= acc.length + b.length := by
  intro b
  induction b with
  | nil => intro acc; simp
  | cons x b ih =>
   intro acc
   have h1 := ih (onS1 acc x)
   have h2 : (onS1 acc x).length <= acc.length + 1 := by unfold onS1; split <;> simp
   simp only [List.foldl_cons, List.length_cons]
   omega
 have := gen (l.take k) []
 simp only [List.length_nil, List.length_take] at this
 unfold onL
 omega
theorem once_any (l : List (List UInt8)) (v : Value) (w : World) (h : TxR w v l) (hln : l.length <= 1000000) (hbd : ∀ x ∈ l, x.length <= 140737488355328) : Calls Tryz.prog 128 #[v] w (OnPost (onL l) w) := by
 obtain ⟨a, c, rfl, hcells⟩ := h
 have HM := Hy hcells
 have HBd := Hy hbd
 have HS := Hy (fun k hk => on_step (l := l) k hk)
 have HOl := Hy (on_len l)
 have HT := Hy (show onL (l.take l.length) = onL l by rw [List.take_length])
 obtain ⟨n, hn⟩ : ∃ n, l.length = n := ⟨_, rfl⟩
 have HL := Hy hn
 rw [hn] at hln ⊢
 have hmm := run_makeMap_hint (P := Tryz.prog) 192 _ _ Tryz.underlying192
 clear hcells hn hbd
 go_enter Tryz.func128, Tryz.ntmps128
 go_wp2
 go_loopw [4, 14] (fun o v wr => ∃ k : Nat, k <= n /\ v = .int .i64 (k : Nat) /\ StAt wr w.heap.size k (onL (l.take k)) /\ wr.ownsRow (w.heap.size + 1) 9 1 o (onL (l.take k)).length (sc (onL (l.take k))) /\ Below w.heap.size w wr /\ w.heap.size + 1 <= wr.heap.size) (fun _ v _ => n - (intOf v).toNat)
 case atStart => exact ⟨0, by omega, rfl, ⟨_, World.ownsMap_made _ _ _ _, stIs_nil⟩, World.ownsRow_nil _ _ _ _, (Below.refl _ _).alloc (Nat.le_refl _) _, by simp⟩
 case round =>
  obtain ⟨k, hk, rfl, hst, hown, hb, hsz⟩ := hrel
  by_cases hlt : k < n
  ·have hkl : (k : Int) < (n : Int) := by omega
   have hkm : k < l.length := by rw [HL.out]; exact hlt
   obtain ⟨g, o, rfl, hg, e1w⟩ := HM.out k hkm
   have e1 := (hb.cell (p := ⟨g, o + k, none⟩) hg).trans e1w
   have hbd := HBd.out _ (List.getElem_mem hkm)
   have hsk := HS.out k hkm
   have hol := HOl.out k
   obtain ⟨m, hmm⟩ : ∃ m, l[k] = m := ⟨_, rfl⟩
   rw [hmm] at e1 hsk hbd
   obtain ⟨A, hA⟩ : ∃ A, onL (l.take k) = A := ⟨_, rfl⟩
   rw [hA] at hst hown hsk hol
   have hrun := stAt_look hst m hbd
   obtain ⟨oa, oc, rfl⟩ := ownsRow_slice hown
   by_cases hin : inL A m = true
   ·have e : onS1 A m = A := by unfold onS1; rw [if_pos hin]
    rw [e] at hsk
    rw [hin] at hrun
    have H := Hy (An hst (An hown (An hb (An hsz hsk))))
    clear hst hown hb hsk hmm hA hin e e1w hbd
    go_wp2
    obtain ⟨q1, q2, q3, q4, q5⟩ := H.out
    refine ⟨⟨k + 1, by omega, by go_num, ?_, ?_, q3.alloc q3.size _, by simp; omega⟩, by simp [intOf]; omega⟩
    ·rw [q5]
     obtain ⟨D, hD1, hD2⟩ := q1
     exact ⟨D, (hD1.alloc _).mono (Nat.le_succ _), hD2⟩
    ·rw [q5]; exact q2.alloc _
   ·have hin : inL A m = false := by simpa using hin
    have e : onS1 A m = A ++ [m] := by unfold onS1; rw [if_neg (by rw [hin]; simp)]
    rw [e] at hsk
    rw [hin] at hrun
    obtain ⟨D, hD1, hD2⟩ := hst
    have hD3 := stIs_put (s := m) (N' := A ++ [m]) (hD1.tidy snlaw) hD2 (fun y => by simp)
    have hkey := snkey m hbd
    have H := Hy (An hown (An hb (An hsz (An hsk (An hD3 (An hD1 hol))))))
    clear hD2 hD3 hown hb hsk hmm hA hin e e1w hbd hol
    go_wp2_with (first
     | (at_mapUpdate
        refine wpList_mapUpdate_own _ rfl _ _ _ 192 rfl 9 193 snlaw Tryz.underlying192 (unitElem (H := Unit)) w.heap.size k _ rfl (hD1.alloc _) (by unfold maxLen; omega) _ _ _ rfl rfl hkey _ [] unitElem_mk ?_
        intro w1 hown1 hgrow1
        obtain ⟨q1, q2, q3, q4, q5, q6, q7⟩ := H.out
        have hb1 : Below w.heap.size w w1 := (q2.alloc q2.size _).grown hgrow1 (by simp; omega) (fun j hj => by cases hj; exact Nat.le_refl _)
        have hr1 := (q1.alloc (.cells #[] 193)).kept hgrow1 (Or.inr (row_ne_below q1 (Nat.lt_succ_self _)).symm)
        have hs1 : w.heap.size + 1 <= w1.heap.size := by have := hgrow1.size; simp at this; omega
        have H5 := Hy (An hb1 (An hr1 (An hs1 hown1)))
        clear hb1 hr1 hs1 hown1 hgrow1 q1 q2 q3 q4 q5 q6 hrun)
     | (at_builtin; refine wpList_pushm rfl (.tmp 28) (.tmp 30) 43 9 rfl (w.heap.size + 1) 1 16 (.string ByteArray.empty) Tryz.scinfo9 Tryz.underlying43 rfl (by decide) 1 [.string ⟨m.toArray⟩] rfl ?c0 _ A.length _ rfl _ rfl ?c3 H5.out.2.1 ?c1 ?c2 H5.out.2.2.1 ?_)
     | go_in)
    case c0 => first | rfl | (intro u hu; simp at hu; subst hu; rfl)
    case c1 => unfold maxLen; omega
    case c2 => omega
    case c3 => first | rfl | simp
    intro v' w' g1 g2
    have H6 := Hy (An g1 g2)
    clear g1 g2
    go_wp2
    obtain ⟨r1, r2⟩ := H6.out
    obtain ⟨p1, p2, p3, p4⟩ := H5.out
    obtain ⟨q1, q2, q3, q4, q5, q6, q7⟩ := H.out
    refine ⟨⟨k + 1, by omega, by go_num, ?_, ?_, p1.trans (r2.mono (Nat.le_succ _)), Nat.le_trans p3 r2.size⟩, by simp [intOf]; omega⟩
    ·rw [q4]
     exact stAt_below ⟨_, p4, q5⟩ r2 (Nat.lt_succ_self _)
    ·rw [q4, List.length_append, sc_snoc1]; exact r1
  ·obtain rfl : k = n := by omega
   have hT := HT.out
   rw [HL.out] at hT
   rw [hT] at hown
   obtain ⟨oa, oc, rfl⟩ := ownsRow_slice hown
   have H := Hy (An hown hb)
   clear hown hb hst hT
   go_wp2
   go_ret
   exact ⟨_, rfl, ownsRow_base H.out.1 (Nat.le_succ _), H.out.2⟩
end Go.Proofs.YtpkbgkoocijegaaGreatDoor
namespace Go.Proofs.YtpkbgkoocijegaaGreatDoor
open Go Go.RowKit Go.Proofs.BerK Go.Proofs.MemK Go.Proofs.UtfK
def EaAt (w : World) (v : Value) (A : List Atr) : Prop :=
 SlOk v /\ ∃ a c, v = .slice a A.length c /\ ∀ i (hi : i < A.length), ∃ g o vl, a = some ⟨g, o, none⟩ /\ g < w.heap.size /\ w.cell? ⟨g, o + i * 2, none⟩ = some (.string ⟨A[i].1.toArray⟩) /\ w.cell? ⟨g, o + i * 2 + 1, none⟩ = some vl /\ TxR w vl A[i].2 /\ SlOk vl
theorem eaAt_at {w : World} {v : Value} {A : List Atr} (h : EaAt w v A) : AtAt w v A := by
 obtain ⟨_, a, c, rfl, h⟩ := h
 refine ⟨a, c, rfl, fun i hi => ?_⟩
 obtain ⟨g, o, vl, h1, h2, h3, h4, h5, _⟩ := h i hi
 exact ⟨g, o, vl, h1, h2, h3, h4, h5⟩
theorem eaAt_below {w w' : World} {v : Value} {A : List Atr} (h : EaAt w v A) (hb : Below w.heap.size w w') : EaAt w' v A := by
 obtain ⟨hk, a, c, rfl, h⟩ := h
 refine ⟨hk, a, c, rfl, fun i hi => ?_⟩
 obtain ⟨g, o, vl, h1, h2, h3, h4, h5, h6⟩ := h i hi
 exact ⟨g, o, vl, h1, Nat.lt_of_lt_of_le h2 hb.size, (hb.cell (p := ⟨g, _, none⟩) h2).trans h3, (hb.cell (p := ⟨g, _, none⟩) h2).trans h4, txR_below h5 hb, h6⟩
def FewE (A : List Atr) : Prop := A.length <= 1000 /\ ∀ a ∈ A, a.1.length <= 100000 /\ a.2.length <= 1000 /\ ∀ s ∈ a.2, s.length <= 100000
theorem va_step {A : List Atr} {n : List UInt8} (i : Nat) (hi : i < A.length) : vaL (A.take (i + 1)) n = if (lowL A[i].1 == n) = true then vaL (A.take i) n ++ A[i].2 else vaL (A.take i) n := by
 rw [List.take_succ_eq_append_getElem hi, va_app]
 unfold vaL
 split
 ·rename_i h; simp [h]
 ·rename_i h
  have h : (lowL A[i].1 == n) = false := by simpa using h
  simp [h]
theorem va_len {A : List Atr} (h : ∀ a ∈ A, a.2.length <= 1000) (n : List UInt8) : (vaL A n).length <= 1000 * A.length := by
 induction A with
 | nil => simp [vaL]
 | cons a A ih =>
  have h1 := ih (fun b hb => h b (List.mem_cons_of_mem _ hb))
  have h2 := h a (by simp)
  unfold vaL at *
  rw [List.filter_cons]
  split
  ·simp only [List.flatMap_cons, List.length_append, List.length_cons]; omega
  ·simp only [List.length_cons]; omega
theorem va_mem {A : List Atr} {n s : List UInt8} (h : s ∈ vaL A n) : ∃ a ∈ A, s ∈ a.2 := by
 unfold vaL at h
 obtain ⟨a, ha, hs⟩ := List.mem_flatMap.1 h
 exact ⟨a, (List.mem_filter.1 ha).1, hs⟩
theorem few_take {A : List Atr} (h : FewE A) (n : List UInt8) (i : Nat) : (vaL (A.take i) n).length <= 1000000 := by
 have := va_len (A := A.take i) (fun a ha => (h.2 a (List.mem_of_mem_take ha)).2.1) n
 rw [List.length_take] at this
 have h1 := h.1
 omega
theorem get_any (A : List Atr) (dn s : List UInt8) (av : Value) (w : World) (h : EaAt w av A) (hf : FewE A) (hs : s.length <= 140737488355328) :
  Calls Tryz.prog 77 #[.agg #[.string ⟨dn.toArray⟩, av], .string ⟨s.toArray⟩] w (OnPost (geL A s) w) := by
 obtain ⟨_, a, c, rfl, hcells⟩ := h
 have HM := Hy hcells
 have HF := Hy hf
 have HLo := Hy (fun w => show Calls Tryz.prog 74 #[.string ⟨s.toArray⟩] w (StrPost (lowL s) w) from lower_any ⟨s.toArray⟩ w)
 obtain ⟨N, hN⟩ : ∃ N, lowL s = N := ⟨_, rfl⟩
 have HG := Hy (show geL A s = onL (vaL (A.take A.length) N) by unfold geL; rw [hN, List.take_length])
 rw [hN] at HLo
 obtain ⟨R, hR⟩ : ∃ R, geL A s = R := ⟨_, rfl⟩
 rw [hR] at HG ⊢
 have HT := Hy (fun i (hi : i < A.length) => va_step (A := A) (n := N) i hi)
 have HTl := Hy (fun i => few_take hf N i)
 obtain ⟨n, hn⟩ : ∃ n, A.length = n := ⟨_, rfl⟩
 have HL := Hy hn
 have hnl : n <= 1000 := by rw [<- hn]; exact hf.1
 rw [hn] at HG ⊢
 obtain ⟨W1, hW1⟩ : ∃ W1, w.alloc (.cells #[.string ⟨dn.toArray⟩, .slice a n c] 24) = W1 := ⟨_, rfl⟩
 have hb1 : Below w.heap.size w W1 := by rw [<- hW1]; exact (Below.refl _ w).alloc (Nat.le_refl _) _
 have hx1 : W1.heap[w.heap.size]? = some (.cells #[.string ⟨dn.toArray⟩, .slice a n c] 24 (0, 0)) := by rw [<- hW1]; exact heap_alloc_new w _
 have HX := Hy (An hb1 hx1)
 have HW1 := Hy hW1
 clear hcells hf hN hR hn hs hb1 hx1 hW1
 go_enter Tryz.func77, Tryz.ntmps77
 go_wp2_with fail
 rw [HW1.out]
 refine (HLo.out _).mono ?_
 rintro e w2 ⟨rfl, hb2⟩
 have x2 := obj_below HX.out.2 hb2 (obj_lt HX.out.2)
 obtain ⟨d0, d1⟩ := obj2s x2
 have H2 := Hy hb2
 clear hb2 x2
 go_wp2
 clear d0 d1
 go_loopw [6, 14] (fun o v wr => ∃ k : Nat, k <= n /\ v = .int .i64 (k : Nat) /\ wr.ownsRow W1.heap.size 9 1 o (vaL (A.take k) N).length (sc (vaL (A.take k) N)) /\ Below W1.heap.size W1 wr) (fun _ v _ => n - (intOf v).toNat)
 case atStart => exact ⟨0, by omega, rfl, World.ownsRow_nil _ _ _ _, H2.out⟩
 case round =>
  obtain ⟨k, hk, rfl, hown, hb⟩ := hrel
  by_cases hlt : k < n
  ·have hkl : (k : Int) < (n : Int) := by omega
   have hkm : k < A.length := by rw [HL.out]; exact hlt
   obtain ⟨g, o, vl, rfl, hg, e0w, e1w, hvl, hvk⟩ := HM.out k hkm
   have hbw := HX.out.1.trans (hb.mono HX.out.1.size)
   have e0 := (hbw.cell (p := ⟨g, _, none⟩) hg).trans e0w
   have e1 := (hbw.cell (p := ⟨g, _, none⟩) hg).trans e1w
   have hrd := rdRow_below (rd_txR hvl hvk) hbw
   obtain ⟨va, vc, rfl, _⟩ := hvl
   have hT := HT.out k hkm
   have hTl := HTl.out k
   have hTl1 := HTl.out (k + 1)
   obtain ⟨m, hmm⟩ : ∃ m, A[k].1 = m := ⟨_, rfl⟩
   obtain ⟨V, hV⟩ : ∃ V, A[k].2 = V := ⟨_, rfl⟩
   rw [hmm, hV] at hT
   rw [hmm] at e0
   rw [hV] at hrd e1
   obtain ⟨X, hX⟩ : ∃ X, vaL (A.take k) N = X := ⟨_, rfl⟩
   rw [hX] at hown hT hTl
   have HLk := Hy (fun w => show Calls Tryz.prog 74 #[.string ⟨m.toArray⟩] w (StrPost (lowL m) w) from lower_any ⟨m.toArray⟩ w)
   obtain ⟨LM, hLM⟩ : ∃ x, lowL m = x := ⟨_, rfl⟩
   rw [hLM] at HLk hT
   obtain ⟨nl, hnl⟩ : ∃ x, V.length = x := ⟨_, rfl⟩
   rw [hnl] at e1 hrd
   obtain ⟨W2, hW2⟩ : ∃ W2, wr.alloc (.cells #[.string ⟨m.toArray⟩, .slice va nl vc] 45) = W2 := ⟨_, rfl⟩
   have hb2 : Below wr.heap.size wr W2 := by rw [<- hW2]; exact (Below.refl _ wr).alloc (Nat.le_refl _) _
   have y2 : W2.heap[wr.heap.size]? = some (.cells #[.string ⟨m.toArray⟩, .slice va nl vc] 45 (0, 0)) := by rw [<- hW2]; exact heap_alloc_new wr _
   have HW2 := Hy hW2
   have HB2 := Hy hb2
   obtain ⟨i0, i1⟩ := obj2s y2
   obtain ⟨oa, oc, rfl⟩ := ownsRow_slice hown
   have H := Hy (An hown (An hb (An hrd (An y2 (An hT (An hTl (An hTl1 hnl)))))))
   clear hown hb hrd y2 hT hbw e0w e1w hmm hV hX hLM hW2 hb2 hnl hvk hTl hTl1
   go_wp2_with fail
   rw [HW2.out]
   refine (HLk.out _).mono ?_
   rintro e w5 ⟨rfl, hb5⟩
   have y5 := obj_below H.out.2.2.2.1 hb5 (obj_lt H.out.2.2.2.1)
   obtain ⟨j0, j1⟩ := obj2s y5
   have hb6 : Below wr.heap.size wr w5 := HB2.out.trans (hb5.mono HB2.out.size)
   have H5 := Hy (An hb6 (An (ownsRow_below H.out.1 hb6) (An (H.out.2.1.trans (hb6.mono H.out.2.1.size)) (rdRow_below H.out.2.2.1 hb6))))
   clear hb5 hb6 y5 i0 i1 e0 e1
   by_cases hq : (LM == N) = true
   ·have HE := Hy (show vaL (A.take (k + 1)) N = X ++ V by rw [H.out.2.2.2.2.1, if_pos hq])
    go_wp2_with (first
     | (at_builtin; refine wpList_appendr rfl (.tmp 23) (.tmp 25) 43 9 rfl W1.heap.size 1 16 (.string ByteArray.empty) Tryz.scinfo9 Tryz.underlying43 rfl (by decide) _ X.length _ rfl H5.out.2.1 _ nl (sc V) rfl H5.out.2.2.2 (sc_one_cell _) ?c1 ?c2 H5.out.2.2.1.size ?_)
     | go_in)
    case c1 =>
     have z1 := H.out.2.2.2.2.2.2.1
     rw [HE.out, List.length_append, H.out.2.2.2.2.2.2.2] at z1
     unfold maxLen; omega
    case c2 =>
     have z1 := H.out.2.2.2.2.2.2.1
     rw [HE.out, List.length_append, H.out.2.2.2.2.2.2.2] at z1
     omega
    intro v' w' g1 g2 g3
    have H6 := Hy (An g1 (below_chg H5.out.2.2.1 H5.out.2.2.1.size H5.out.2.1 g2))
    clear g1 g2 g3
    go_wp2
    refine ⟨⟨k + 1, by omega, by go_num, ?_, H6.out.2⟩, by simp [intOf]; omega⟩
    have z := H6.out.1
    rw [HE.out, List.length_append, H.out.2.2.2.2.2.2.2]
    have e : sc (X ++ V) = sc X ++ sc V := by simp [sc]
    rw [e]; exact z
   ·have hq : (LM == N) = false := by simpa using hq
    have HE := Hy (show vaL (A.take (k + 1)) N = X by rw [H.out.2.2.2.2.1, if_neg (by rw [hq]; simp)])
    go_wp2
    refine ⟨⟨k + 1, by omega, by go_num, ?_, H5.out.2.2.1⟩, by simp [intOf]; omega⟩
    rw [HE.out]; exact H5.out.2.1
  ·obtain rfl : k = n := by omega
   have hX := HG.out
   have hTl := HTl.out k
   have hmem : ∀ x ∈ vaL (A.take k) N, x.length <= 140737488355328 := fun x hx => by
    obtain ⟨a, ha, hxa⟩ := va_mem hx
    have := (HF.out.2 a (List.mem_of_mem_take ha)).2.2 x hxa
    omega
   obtain ⟨X, hXe⟩ : ∃ X, vaL (A.take k) N = X := ⟨_, rfl⟩
   rw [hXe] at hown hX hTl hmem
   obtain ⟨oa, oc, rfl⟩ := ownsRow_slice hown
   have HO := Hy (once_any X _ wr (txR_owns hown) hTl hmem)
   have hbw := HX.out.1.trans (hb.mono HX.out.1.size)
   have H := Hy (An hbw hX)
   clear hown hb hbw hX hTl hmem hXe
   go_wp2_with fail
   refine HO.out.mono ?_
   rintro e w5 ⟨v, rfl, hr, hb5⟩
   obtain ⟨ra, rc, rfl⟩ := ownsRow_slice hr
   have H5 := Hy (An hr hb5)
   clear hr hb5
   go_wp2
   go_ret
   refine ⟨_, rfl, ?_, H.out.1.trans (H5.out.2.mono H.out.1.size)⟩
   rw [H.out.2]
   exact ownsRow_base H5.out.1 H.out.1.size
end Go.Proofs.YtpkbgkoocijegaaGreatDoor
