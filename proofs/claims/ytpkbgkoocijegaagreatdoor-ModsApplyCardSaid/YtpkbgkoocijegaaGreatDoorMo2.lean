/- The code's norms: values as they count, or that one of them is none. The code's add: values put behind those that are there, if none of them is. The code's remove: as many values gone as are asked for. The code's apply: one modification. -/
import Derived.Test.YtpkbgkoocijegaaGreatDoorMo1
import Derived.Test.YtpkbgkoocijegaaGreatDoorSnAL
import Derived.Test.YtpkbgkoocijegaaGreatDoorRuAD
import Derived.Test.YtpkbgkoocijegaaGreatDoorDtAC
import Derived.Test.YtpkbgkoocijegaaGreatDoorEnXZ
set_option linter.unusedVariables false
set_option linter.unusedSimpArgs false
set_option maxHeartbeats 25600000
set_option maxRecDepth 100000
namespace Go.Proofs.YtpkbgkoocijegaaGreatDoor
open Go Go.RowKit Go.Proofs.BerK Go.Proofs.MemK Go.Proofs.UtfK
def MnPost (r : Int) (vs : List (List UInt8)) (w : World) (en : Ending) (w' : World) : Prop :=
 (mdOk r vs = false -> en = .returned (.tuple #[.slice none 0 0, .bool false])) /\ (mdOk r vs = true -> ∃ a c, en = .returned (.tuple #[.slice a vs.length c, .bool true]) /\ w'.ownsRow w.heap.size 9 1 (.slice a vs.length c) vs.length (sc (vs.map (kyN r)))) /\ Below w.heap.size w w'
theorem mdOk_bad {r : Int} {vs : List (List UInt8)} (k : Nat) (hk : k < vs.length) (h : (ruN r vs[k]).2 = false) : mdOk r vs = false := by
 unfold mdOk
 rw [List.all_eq_false]
 exact ⟨vs[k], List.getElem_mem hk, by rw [h]; simp⟩
theorem mdOk_good {r : Int} {vs : List (List UInt8)} (h : ∀ k (hk : k < vs.length), (ruN r vs[k]).2 = true) : mdOk r vs = true := by
 unfold mdOk
 rw [List.all_eq_true]
 intro x hx
 obtain ⟨k, hk, rfl⟩ := List.getElem_of_mem hx
 exact h k hk
theorem mnPost_bad {r : Int} {vs : List (List UInt8)} {w w' : World} (h : mdOk r vs = false) (hb : Below w.heap.size w w') : MnPost r vs w (.returned (.tuple #[.slice none 0 0, .bool false])) w' :=
 ⟨fun _ => rfl, fun h2 => (by rw [h] at h2; cases h2), hb⟩
theorem mnPost_ok {r : Int} {vs : List (List UInt8)} {n : Nat} {w w' : World} {a : Option Addr} {c : Nat} (hn : vs.length = n) (h : mdOk r vs = true) (ht : w'.ownsRow w.heap.size 9 1 (.slice a n c) n (sc (vs.map (kyN r)))) (hb : Below w.heap.size w w') : MnPost r vs w (.returned (.tuple #[.slice a n c, .bool true])) w' :=
 ⟨fun h2 => (by rw [h] at h2; cases h2), fun _ => ⟨a, c, by rw [hn], by rw [hn]; exact ht⟩, hb⟩
theorem monrm_any (r : Int) (ms : List (List UInt8)) (v : Value) (w : World) (hl : ms.length <= 1000000) (hm : TxR w v ms) (he : ErrOk w) :
  Calls Tryz.prog 75 #[.int .i64 r, v] w (MnPost r ms w) := by
 obtain ⟨a, c, rfl, hcells⟩ := hm
 have HM := Hy hcells
 have HE := Hy he
 obtain ⟨L, hL⟩ : ∃ L, ms.map (kyN r) = L := ⟨_, rfl⟩
 have hLl : L.length = ms.length := by rw [<- hL]; simp
 have HL := Hy hL
 have HBad := Hy (mdOk_bad (r := r) (vs := ms))
 have HGood := Hy (mdOk_good (r := r) (vs := ms))
 obtain ⟨n, hn⟩ : ∃ n, ms.length = n := ⟨_, rfl⟩
 have HN := Hy hn
 rw [hn] at hl hLl ⊢
 have HLl := Hy hLl
 obtain ⟨i0, hi, hz0, hz1, hz2⟩ := info_parts Tryz.sninfo9
 have HI := Hy hi
 have HZ0 := Hy hz0
 have HZ1 := Hy hz1
 have HZ2 := Hy hz2
 clear hi hz0 hz1 hz2 hcells hL hn he
 go_enter Tryz.func75, Tryz.ntmps75
 go_wp2_with (at_make; refine wpList_make_full _ rfl _ _ 43 rfl w.heap.size 9 i0 (.string ByteArray.empty) 1 Tryz.underlying43 HI.out HZ0.out HZ1.out _ _ _ _ n rfl rfl ?e1 ?e2 ?b0 ?b1 ?b2 ?_)
 case e1 => rfl
 case e2 => rfl
 case b0 => rw [HZ2.out]; omega
 case b1 => unfold maxLen; omega
 case b2 => exact Nat.le_refl _
 intro w3 hown3 hg3
 have hb3 : Below w.heap.size w w3 := (Below.refl _ _).grown hg3 (Nat.le_refl _) (fun k hk => by cases hk)
 have e0 := preS_0 L
 rw [hLl] at e0
 rw [<- e0] at hown3
 have hs3 : w.heap.size <= w3.heap.size := hb3.size
 have HX := Hy hb3
 clear e0 hg3 hb3
 go_wp2
 go_loopw [16] (fun v wr => ∃ i : Nat, i <= n /\ v = .int .i64 (i : Nat) /\ wr.ownsRow w.heap.size 9 1 (.slice (some ⟨w.heap.size, 0, none⟩) n n) n (sc (preS L i)) /\ Below w.heap.size w wr /\ ∀ k (hk : k < ms.length), k < i -> (ruN r ms[k]).2 = true) (fun v _ => n - (intOf v).toNat)
 case atStart => exact ⟨0, by omega, rfl, hown3, HX.out, fun k _ h => by omega⟩
 case round =>
  obtain ⟨i, hi, rfl, hown, hb, hall⟩ := hrel
  have hsr : w.heap.size <= wr.heap.size := hb.size
  by_cases hlt : i < n
  ·have hil : (i : Int) < (n : Int) := by omega
   have hims : i < ms.length := by rw [HN.out]; exact hlt
   obtain ⟨g, o, rfl, hg, e1w⟩ := HM.out i hims
   have e1 := (hb.cell (p := ⟨g, o + i, none⟩) hg).trans e1w
   have hiL : i < L.length := by rw [hLl]; exact hlt
   have hLi : L[i] = (ruN r ms[i]).1 := by
    have := HL.out
    subst this
    simp [kyN]
   have hset := preS_set L i hiL
   have hat := preS_at L i hiL
   rw [hLi] at hset
   have hbad := HBad.out i hims
   have hstep := fun (hx : (ruN r ms[i]).2 = true) k (hk : k < ms.length) (hki : k < i + 1) => (show (ruN r ms[k]).2 = true by
    by_cases e : k = i
    ·subst e; exact hx
    ·exact hall k hk (by omega))
   obtain ⟨m, hmm⟩ : ∃ m, ms[i] = m := ⟨_, rfl⟩
   rw [hmm] at e1 hset hbad hstep
   have HNo := Hy (runorm_any r m wr (errOk_below HE.out hb))
   obtain ⟨⟨M, ok⟩, hp⟩ : ∃ p, ruN r m = p := ⟨_, rfl⟩
   rw [hp] at HNo hset hbad hstep
   dsimp only at hset hbad hstep
   have HP := Hy (show NbPost (M, ok) wr = fun en w' => en = .returned (.tuple #[.string ⟨M.toArray⟩, .bool ok]) /\ Below wr.heap.size wr w' from rfl)
   have H := Hy (An hown (An hb (An hset (An hat (An hbad hstep)))))
   clear hown hb hset hat hLi hmm e1w hbad hstep hall hp
   go_wp2_with fail
   refine HNo.out.mono ?_
   rintro e w5 ⟨rfl, hb5⟩
   dsimp only
   have hown5 := ownsRow_below H.out.1 hb5
   have c0 := (hown5.cellAt i (by omega)).trans H.out.2.2.2.1
   have f0 := hown5.frozenAt i
   have H5 := Hy (An hown5 (H.out.2.1.trans (hb5.mono hsr)))
   clear hown5 hb5
   cases ok
   ·have HQ := Hy (H.out.2.2.2.2.1 rfl)
    go_wp2
    go_ret2
    exact mnPost_bad HQ.out H5.out.2
   ·have HQ := Hy (H.out.2.2.2.2.2 rfl)
    go_wp2
    refine ⟨⟨i + 1, by omega, by go_num, ?_, ?_, HQ.out⟩, by simp [intOf]; omega⟩
    ·have h7 := (H5.out.1.stored i (.string ⟨M.toArray⟩)).1
     rw [H.out.2.2.1] at h7
     exact h7
    ·exact H5.out.2.setCell (p := ⟨w.heap.size, i, none⟩) (Nat.le_refl _) _
  ·obtain rfl : i = n := by omega
   have HQ := Hy (HGood.out (fun k hk => hall k hk (by rw [HN.out] at hk; exact hk)))
   have H := Hy (An hown hb)
   clear hown hb hall
   go_wp2
   go_ret2
   have ho := H.out.1
   rw [<- hLl, preS_all] at ho
   rw [hLl, <- HL.out] at ho
   exact mnPost_ok HN.out HQ.out ho H.out.2
end Go.Proofs.YtpkbgkoocijegaaGreatDoor
namespace Go.Proofs.YtpkbgkoocijegaaGreatDoor
open Go Go.RowKit Go.Proofs.BerK Go.Proofs.MemK Go.Proofs.UtfK Go.Maps Go.WideMaps
def MdPost (dn : List UInt8) (p : List Atr × Int) (w : World) (en : Ending) (w' : World) : Prop :=
 ∃ d a n c, en = .returned (.tuple #[.agg #[.string ⟨d⟩, .slice a n c], .int .i64 p.2]) /\ (p.2 = 0 -> d = dn.toArray /\ PaAt w' (.slice a n c) p.1) /\ Below w.heap.size w w'
theorem mdPost_bad {dn : List UInt8} {p : List Atr × Int} {x : Int} {d : Array UInt8} {a : Option Addr} {n c : Nat} {w w' : World} (h : p.2 = x) (hc : x ≠ 0) (hb : Below w.heap.size w w') : MdPost dn p w (.returned (.tuple #[.agg #[.string ⟨d⟩, .slice a n c], .int .i64 x])) w' :=
 ⟨d, a, n, c, by rw [h], fun h2 => absurd (h.symm.trans h2) hc, hb⟩
theorem mdPost_ok {dn : List UInt8} {p : List Atr × Int} {L : List Atr} {a : Option Addr} {n c : Nat} {w w' : World} (h : p = (L, 0)) (hv : PaAt w' (.slice a n c) L) (hb : Below w.heap.size w w') : MdPost dn p w (.returned (.tuple #[.agg #[.string ⟨dn.toArray⟩, .slice a n c], .int .i64 0])) w' := by
 subst h
 exact ⟨_, a, n, c, rfl, fun _ => ⟨rfl, hv⟩, hb⟩
theorem boxesM {w W1 : World} {a b c d e f g : Value} (h : ((w.alloc (.cells #[a, b, c] 79)).alloc (.cells #[d, e] 24)).alloc (.cells #[f, g] 24) = W1) :
  W1.heap[w.heap.size]? = some (.cells #[a, b, c] 79 (0, 0)) /\ W1.heap[w.heap.size + 1]? = some (.cells #[d, e] 24 (0, 0)) /\ W1.heap[w.heap.size + 1 + 1]? = some (.cells #[f, g] 24 (0, 0)) /\ Below w.heap.size w W1 /\ W1.heap.size = w.heap.size + 3 := by
 obtain ⟨W0, hW0⟩ : ∃ W, w.alloc (.cells #[a, b, c] 79) = W := ⟨_, rfl⟩
 rw [hW0] at h
 have hs : W0.heap.size = w.heap.size + 1 := by rw [<- hW0]; simp
 have hb0 : Below w.heap.size w W0 := by rw [<- hW0]; exact (Below.refl _ w).alloc (Nat.le_refl _) _
 have hx0 : W0.heap[w.heap.size]? = some (.cells #[a, b, c] 79 (0, 0)) := by rw [<- hW0]; exact heap_alloc_new w _
 obtain ⟨x1, x2, hb1, hz1⟩ := boxes10 h
 rw [hs] at x1 x2 hz1 hb1
 refine ⟨obj_below hx0 hb1 (by omega), x1, x2, hb0.trans (hb1.mono (by omega)), by omega⟩
def seF (N : List (List UInt8)) : List UInt8 -> Option Value := fun s => if inL N s = true then some (.agg #[]) else none
theorem seF_up {N N' : List (List UInt8)} {s : List UInt8} (h : ∀ y, y ∈ N' ↔ y ∈ N \/ y = s) : upF (seF N) s (some (.agg #[])) = seF N' := by
 funext t
 unfold upF seF
 by_cases e : t = s
 ·rw [if_pos e, if_pos (inL_mem.2 ((h t).2 (.inr e)))]
 ·rw [if_neg e]
  by_cases h1 : inL N t = true
  ·rw [if_pos h1, if_pos (inL_mem.2 ((h t).2 (.inl (inL_mem.1 h1))))]
  ·rw [if_neg h1, if_neg]
   intro h2
   rcases (h t).1 (inL_mem.1 h2) with h3 | h3
   ·exact h1 (inL_mem.2 h3)
   ·exact e h3
theorem seF_some (N : List (List UInt8)) (s : List UInt8) : (seF N s).isSome = inL N s := by
 unfold seF; cases h : inL N s <;> simp
theorem seF_get (N : List (List UInt8)) (s : List UInt8) : (seF N s).getD (.agg #[]) = .agg #[] := by
 unfold seF; split <;> rfl
theorem seF_nil : (fun _ => none) = seF [] := by funext s; rfl
theorem npF_le {N : List (List UInt8)} {s : List UInt8} {n n' k : Nat} (h : NPut (seF N) s n n') (hk : n <= k) : n' <= k + 1 := by
 unfold NPut at h
 split at h <;> omega
theorem ge_len {A : List Atr} (hf : FewE A) (s : List UInt8) : (geL A s).length <= 1000000 := by
 have h1 := on_len (vaL A (lowL s)) (vaL A (lowL s)).length
 rw [List.take_length] at h1
 have h2 := few_take hf (lowL s) A.length
 rw [List.take_length] at h2
 unfold geL
 omega
theorem moadd_any (r : Int) (sg : Bool) (L : List Atr) (dn n : List UInt8) (vs : List (List UInt8)) (av vv kv : Value) (w : World) (hE : EaAt w av L) (hf : FewE (L ++ [(n, vs)])) (hV : TxR w vv vs) (hk : SlOk vv) (hK : TxR w kv (vs.map (kyN r))) (hok : mdOk r vs = true) (hvl : vs.length <= 1000) (hnl : n.length <= 100000) (he : ErrOk w) :
  Calls Tryz.prog 79 #[.agg #[.string ⟨n.toArray⟩, .int .i64 r, .bool sg], .agg #[.string ⟨dn.toArray⟩, av], vv, kv] w (MdPost dn (mdAdd r L n vs) w) := by
 have hfL : FewE L := ⟨by have := hf.1; rw [List.length_append] at this; simp at this; omega, fun a ha => hf.2 a (List.mem_append_left _ ha)⟩
 obtain ⟨va, vc, rfl, hVc⟩ := hV
 have hV : TxR w (.slice va vs.length vc) vs := ⟨va, vc, rfl, hVc⟩
 obtain ⟨a, c, rfl⟩ := eaAt_slice hE
 obtain ⟨W1, hW1⟩ : ∃ W, ((w.alloc (.cells #[.string ⟨n.toArray⟩, .int .i64 r, .bool sg] 79)).alloc (.cells #[.string ⟨dn.toArray⟩, .slice a L.length c] 24)).alloc (.cells #[.string ⟨#[]⟩, .slice none 0 0] 24) = W := ⟨_, rfl⟩
 obtain ⟨x0, x1, x2, hb1, hz1⟩ := boxesM hW1
 have z0 : w.heap.size < W1.heap.size := by omega
 have z1 : w.heap.size + 1 < W1.heap.size := by omega
 have z2 : w.heap.size + 1 + 1 < W1.heap.size := by omega
 obtain ⟨t0, t1, t2⟩ := obj3 x0
 obtain ⟨p0, p1⟩ := obj2s x1
 obtain ⟨q0, q1⟩ := obj2s x2
 have u0 := obj_free x2 0
 have u1 := obj_free x2 1
 have hcase : (vs.length = 0 /\ (mdAdd r L n vs).2 = 19) \/ (vs.length ≠ 0 /\ (hitB (nkL r (geL L n)) (vs.map (kyN r)) = true -> (mdAdd r L n vs).2 = 20) /\ (hitB (nkL r (geL L n)) (vs.map (kyN r)) = false -> mdAdd r L n vs = (clA (L ++ [(n, vs)]), 0))) := by
  rw [mdAdd_is L n hok]
  by_cases h0 : vs = []
  ·left; rw [if_pos h0]; exact ⟨by rw [h0]; rfl, rfl⟩
  ·right
   rw [if_neg h0]
   exact ⟨fun h => h0 (List.length_eq_zero_iff.1 h), fun h => by rw [if_pos h], fun h => by rw [if_neg (by rw [h]; decide)]⟩
 have HGet := Hy (fun w' (hb : Below w.heap.size w w') => get_any L dn n (.slice a L.length c) w' (eaAt_below hE hb) hfL (by omega))
 have HWith := Hy (fun w' (hb : Below w.heap.size w w') => with_any L dn n vs (.slice a L.length c) (.slice va vs.length vc) w' (eaAt_below hE hb) (txR_below hV hb) hk hf)
 have HNo := Hy (fun w' (hb : Below w.heap.size w w') s => runorm_any r s w' (errOk_below he hb))
 have HGl := Hy (ge_len hfL n)
 obtain ⟨ka, kc, rfl, hKc⟩ := hK
 have HKc := Hy hKc
 obtain ⟨P, hP⟩ : ∃ P, mdAdd r L n vs = P := ⟨_, rfl⟩
 rw [hP] at hcase ⊢
 obtain ⟨R, hR⟩ : ∃ R, clA (L ++ [(n, vs)]) = R := ⟨_, rfl⟩
 rw [hR] at hcase HWith
 obtain ⟨G, hG⟩ : ∃ G, geL L n = G := ⟨_, rfl⟩
 rw [hG] at hcase HGet HGl
 obtain ⟨K, hKK⟩ : ∃ K, vs.map (kyN r) = K := ⟨_, rfl⟩
 rw [hKK] at hcase HKc
 have hKl : K.length = vs.length := by rw [<- hKK]; simp
 have hKb : ∀ i (h : i < K.length), K[i].length <= 4096 := by
  intro i h
  subst hKK
  simp only [List.getElem_map, kyN]
  exact ru_len _ _
 have HKb := Hy hKb
 have HX := Hy (An x0 (An x1 (An x2 (An hb1 hz1))))
 have HW1 := Hy hW1
 have hez := enzero
 obtain ⟨ln, hln⟩ : ∃ k, L.length = k := ⟨_, rfl⟩
 rw [hln] at HW1 p1 x1 HX HGet HWith ⊢
 rw [show (vs.map (kyN r)).length = vs.length by simp]
 obtain ⟨m, hm⟩ : ∃ k, vs.length = k := ⟨_, rfl⟩
 rw [hm] at hcase HWith hKl hvl ⊢
 have HKl := Hy hKl
 have HCase := Hy hcase
 have hmm := @run_makeMap Tryz.prog
 obtain ⟨W2, hW2⟩ : ∃ W, W1.alloc (.map #[] 0) = W := ⟨_, rfl⟩
 have hmp : MvAt W2 (w.heap.size + 1 + 1 + 1) (seF []) 0 := by rw [<- hW2, <- seF_nil, show w.heap.size + 1 + 1 + 1 = W1.heap.size by omega]; exact mvAt_new W1
 have hb2 : Below W1.heap.size W1 W2 := by rw [<- hW2]; exact (Below.refl _ W1).alloc (Nat.le_refl _) _
 have hz2 : W2.heap.size = W1.heap.size + 1 := by rw [<- hW2]; simp
 have HX2 := Hy (An hmp (An (hb1.trans (hb2.mono hb1.size)) (An hz2 (An (obj_below x0 hb2 z0) (An (obj_below x1 hb2 z1) (obj_below x2 hb2 z2))))))
 have HW2 := Hy hW2
 have HS := Hy (fun i h => nk_take1 r G i h)
 have HNil := Hy (show nkL r (G.take 0) = [] by simp [nkL])
 clear hE hf hfL hV hVc hk hKc hok hnl he x0 x1 x2 hb1 hz1 hW1 hcase hP hR hG hKK hKl hKb hln hm hmp hb2 hz2 hW2
 rcases HCase.out with ⟨h0, h19⟩ | ⟨h0, hhit, hno⟩
 ·have HP := Hy h19
  subst h0
  clear h19
  go_enter Tryz.func79, Tryz.ntmps79
  go_wp2
  try rw [HW1.out]
  obtain ⟨j0, j1⟩ := obj2s (set2_e HX.out.2.2.1 (.string ⟨#[]⟩) (.slice none 0 0))
  refine bodyPost_ret (v := .tuple #[.agg #[.string ⟨#[]⟩, .slice none 0 0], .int .i64 19]) (by simp [results, Tryz.results79, go_sem, *]) rfl ?_
  first | exact mdPost_bad HP.out (by decide) HX.out.2.2.2.1 | exact mdPost_bad HP.out (by decide) (below_e2 HX.out.2.2.2.1 (by omega) _ _)
 ·have HH := Hy (An hhit hno)
  have hm0 : ¬ ((m : Int) = 0) := by omega
  clear hhit hno
  go_enter Tryz.func79, Tryz.ntmps79
  go_wp2_with fail
  try rw [HW1.out]
  try rw [HW2.out]
  refine (HGet.out W2 HX2.out.2.1).mono ?_
  rintro en w4 ⟨gv, rfl, hgo, hb4⟩
  have hs1 : w.heap.size <= W1.heap.size := HX.out.2.2.2.1.size
  have hz1 := HX.out.2.2.2.2
  have hs12 : W1.heap.size < W2.heap.size := by have := HX2.out.2.2.1; omega
  have hs24 := hb4.size
  have zm : w.heap.size + 1 + 1 + 1 < w4.heap.size := by omega
  obtain ⟨ga, gc, rfl⟩ := ownsRow_slice hgo
  have hgr := txR_owns hgo
  have hgb : ∀ g o n c, Value.slice ga G.length gc = .slice (some ⟨g, o, none⟩) n c -> ¬ g = w.heap.size + 1 + 1 + 1 := by
   intro g o n c e e2
   have := hgo.lt g (by rw [e]; rfl)
   omega
  have y0 := obj_below HX2.out.2.2.2.1 hb4 (by omega)
  have y1 := obj_below HX2.out.2.2.2.2.1 hb4 (by omega)
  have y2 := obj_below HX2.out.2.2.2.2.2 hb4 (by omega)
  have m4 := mvAt_chg HX2.out.1 (Chg.ofBelow (S := fun _ => False) hb4) (fun h => h)
  have hbw4 := HX2.out.2.1.trans (hb4.mono HX2.out.2.1.size)
  obtain ⟨gl, hgl⟩ : ∃ k, G.length = k := ⟨_, rfl⟩
  have HGll := Hy hgl
  rw [hgl] at hgr hgb ⊢
  have hgl1 : gl <= 1000000 := by rw [<- hgl]; exact HGl.out
  have H4 := Hy (An hgr (An hgb (An y0 (An y1 (An y2 (An m4 hbw4))))))
  clear hgo hgr hgb y0 y1 y2 m4 hbw4 hb4 hgl t0 t1 t2 p0 p1 q0 q1 u0 u1
  go_wp2
  go_loopw [29] (fun x wr => ∃ i n' : Nat, i <= gl /\ x = .int .i64 (i : Nat) /\ MvAt wr (w.heap.size + 1 + 1 + 1) (seF (nkL r (G.take i))) n' /\ n' <= i /\ Chg (fun k => k = w.heap.size + 1 + 1 + 1) w4 wr) (fun x _ => gl - (intOf x).toNat)
  case atStart => exact ⟨0, 0, by omega, rfl, by rw [HNil.out]; exact H4.out.2.2.2.2.2.1, Nat.le_refl _, Chg.refl _ _⟩
  case round =>
   obtain ⟨i, n', hi, rfl, hmv, hn', hc⟩ := hrel
   have hbw : Below w.heap.size w wr := H4.out.2.2.2.2.2.2.trans (hc.toBelow (by have := H4.out.2.2.2.2.2.2.size; omega) (fun k _ e => by have e : k = w.heap.size + 1 + 1 + 1 := e; omega))
   have y0 := obj_chg H4.out.2.2.1 hc (fun e => by have e : w.heap.size = w.heap.size + 1 + 1 + 1 := e; omega)
   have y1 := obj_chg H4.out.2.2.2.1 hc (fun e => by have e : w.heap.size + 1 = w.heap.size + 1 + 1 + 1 := e; omega)
   have y2 := obj_chg H4.out.2.2.2.2.1 hc (fun e => by have e : w.heap.size + 1 + 1 = w.heap.size + 1 + 1 + 1 := e; omega)
   have hgr := txR_chg H4.out.1 hc H4.out.2.1
   by_cases hlt : i < gl
   ·have hil : (i : Int) < (gl : Int) := by omega
    have him : i < G.length := by rw [HGll.out]; exact hlt
    obtain ⟨ga', gc', hv', hcells⟩ := hgr
    injection hv' with hv1 hv2 hv3
    subst hv1 hv3
    clear hv2
    obtain ⟨g, o, rfl, hg, e0⟩ := hcells i him
    have hnk := HS.out i him
    obtain ⟨x, hx⟩ : ∃ x, G[i] = x := ⟨_, rfl⟩
    rw [hx] at e0 hnk
    have HNx := Hy (HNo.out wr hbw x)
    have hMl := ru_len r x
    obtain ⟨⟨M, ok⟩, hp⟩ : ∃ p, ruN r x = p := ⟨_, rfl⟩
    have hky : kyN r x = M := by unfold kyN; rw [hp]
    rw [hp] at HNx hMl
    rw [hky, hp] at hnk
    dsimp only at hnk hMl
    obtain ⟨t0, t1, t2⟩ := obj3 y0
    have H := Hy (An hmv (An hc hnk))
    clear hmv hc hnk hx hp hky hcells y0 y1 y2 hbw
    go_wp2_with fail
    refine HNx.out.mono ?_
    rintro en w6 ⟨rfl, hb6⟩
    dsimp only
    have hc6 := H.out.2.1.below (hb6.mono H.out.2.1.size)
    have hm6 := mvAt_chg H.out.1 (Chg.ofBelow (S := fun _ => False) hb6) (fun h => h)
    clear hb6 e0 t0 t1 t2
    cases ok with
    | false =>
     have hnk : nkL r (G.take (i + 1)) = nkL r (G.take i) := by have := H.out.2.2; simpa using this
     have H6 := Hy (An hc6 (An hm6 hnk))
     clear hc6 hm6 hnk
     go_wp2
     exact ⟨⟨i + 1, n', by omega, by go_num, by rw [H6.out.2.2]; exact H6.out.2.1, by omega, H6.out.1⟩, by simp [intOf]; omega⟩
    | true =>
     have hnk : nkL r (G.take (i + 1)) = nkL r (G.take i) ++ [M] := by have := H.out.2.2; simpa using this
     have hup : upF (seF (nkL r (G.take i))) M (some (.agg #[])) = seF (nkL r (G.take (i + 1))) := seF_up (fun y => by rw [hnk]; simp)
     obtain ⟨f, hf⟩ : ∃ f, seF (nkL r (G.take i)) = f := ⟨_, rfl⟩
     have HF := Hy hf
     rw [hf] at hm6 hup
     have H6 := Hy (An hc6 (An hm6 hup))
     clear hc6 hm6 hnk hup hf
     go_wp2_with (at_mapUpdate; refine wpList_mvPut rfl (.tmp 41) (.tmp 42) (.tmp 43) 192 193 rfl Tryz.underlying192 (w.heap.size + 1 + 1 + 1) n' f rfl H6.out.2.1 (by unfold maxLen; omega) M _ rfl rfl (by omega) ?_)
     intro w7 n7 hm7 hn7 ht7
     have hn8 : n7 <= i + 1 := by have h := hn7; rw [<- HF.out] at h; exact npF_le h hn'
     have H7 := Hy (An (show MvAt w7 (w.heap.size + 1 + 1 + 1) (seF (nkL r (G.take (i + 1)))) n7 by rw [<- H6.out.2.2]; exact hm7) (H6.out.1.trans (chg_turned ht7) (fun i _ h => h)))
     clear hm7 hn7 ht7
     go_wp2
     exact ⟨⟨i + 1, n7, by omega, by go_num, H7.out.1, hn8, H7.out.2⟩, by simp [intOf]; omega⟩
   ·obtain rfl : i = gl := by omega
    have hall : nkL r (G.take i) = nkL r G := by rw [<- HGll.out, List.take_length]
    rw [hall] at hmv
    have H5 := Hy (An hmv (An hc (An hbw (An y0 (An y1 y2)))))
    clear hmv hc hbw y0 y1 y2 hgr hall
    obtain ⟨wk, rfl⟩ : ∃ x, x = wr := ⟨_, rfl⟩
    go_wp2
    go_loopw [47] (fun x wr => ∃ j n2 : Nat, j <= m /\ x = .int .i64 (j : Nat) /\ MvAt wr (w.heap.size + 1 + 1 + 1) (seF (nkL r G ++ K.take j)) n2 /\ n2 <= i + j /\ Chg (fun k => k = w.heap.size + 1 + 1 + 1) wk wr /\ ∀ y (hy : y < K.length), y < j -> K[y] ∉ nkL r G /\ K[y] ∉ K.take y) (fun x _ => m - (intOf x).toNat)
    case atStart => exact ⟨0, n', by omega, rfl, by rw [List.take_zero, List.append_nil]; exact H5.out.1, by omega, Chg.refl _ _, fun y _ h => by omega⟩
    case round =>
     obtain ⟨j, n2, hj, rfl, hmv, hn2, hc, hall⟩ := hrel
     have hwk := H5.out.2.2.1.size
     have zk := mvAt_lt H5.out.1
     have hbw : Below w.heap.size w wr := H5.out.2.2.1.trans (hc.toBelow hwk (fun k _ e => by have e : k = w.heap.size + 1 + 1 + 1 := e; omega))
     have y0 := obj_chg H5.out.2.2.2.1 hc (fun e => by have e : w.heap.size = w.heap.size + 1 + 1 + 1 := e; omega)
     have y1 := obj_chg H5.out.2.2.2.2.1 hc (fun e => by have e : w.heap.size + 1 = w.heap.size + 1 + 1 + 1 := e; omega)
     have y2 := obj_chg H5.out.2.2.2.2.2 hc (fun e => by have e : w.heap.size + 1 + 1 = w.heap.size + 1 + 1 + 1 := e; omega)
     by_cases hlt2 : j < m
     ·have hjl : (j : Int) < (m : Int) := by omega
      have hjm : j < K.length := by rw [HKl.out]; exact hlt2
      obtain ⟨g, o, rfl, hg, e0w⟩ := HKc.out j hjm
      have e0 := (hbw.cell (p := ⟨g, _, none⟩) hg).trans e0w
      have hkb := HKb.out j hjm
      have hst : K.take (j + 1) = K.take j ++ [K[j]] := List.take_succ_eq_append_getElem hjm
      have hhit := fun (hx : K[j] ∈ nkL r G \/ K[j] ∈ K.take j) => HH.out.1 (hit_pos j hjm hx)
      have hnext := fun (hx : ¬ (K[j] ∈ nkL r G \/ K[j] ∈ K.take j)) y (hy : y < K.length) (hyj : y < j + 1) => (show K[y] ∉ nkL r G /\ K[y] ∉ K.take y by
       by_cases e : y = j
       ·subst e; exact ⟨fun h => hx (.inl h), fun h => hx (.inr h)⟩
       ·exact hall y hy (by omega))
      obtain ⟨x, hx⟩ : ∃ x, K[j] = x := ⟨_, rfl⟩
      rw [hx] at e0 hkb hst hhit hnext
      have hlk := mv_look hmv Tryz.underlying192 (hez wr) x (by omega)
      rw [seF_get, seF_some] at hlk
      have kq0 : ∀ ob, (wr.alloc ob).cell? ⟨w.heap.size + 1 + 1, 0, none⟩ = some (.string ⟨#[]⟩) := fun ob => obj_cell (obj_alloc y2 ob) 0 _ rfl
      have kq1 : ∀ ob, (wr.alloc ob).cell? ⟨w.heap.size + 1 + 1, 1, none⟩ = some (.slice none 0 0) := fun ob => obj_cell (obj_alloc y2 ob) 1 _ rfl
      have ku0 : ∀ ob, (wr.alloc ob).frozen? ⟨w.heap.size + 1 + 1, 0, none⟩ = false := fun ob => obj_free (obj_alloc y2 ob) 0
      have ku1 : ∀ ob, (wr.alloc ob).frozen? ⟨w.heap.size + 1 + 1, 1, none⟩ = false := fun ob => obj_free (obj_alloc y2 ob) 1
      by_cases hin : inL (nkL r G ++ K.take j) x = true
      ·rw [hin] at hlk
       have HP := Hy (hhit (by have := inL_mem.1 hin; rwa [List.mem_append] at this))
       have H := Hy (An hbw y2)
       clear hmv hc hbw y0 y1 y2 hin hhit hnext hst hx e0w hall
       go_wp2
       obtain ⟨j0, j1⟩ := obj2s (set2_e (obj_alloc H.out.2 (.cells #[] 193)) (.string ⟨#[]⟩) (.slice none 0 0))
       refine bodyPost_ret (v := .tuple #[.agg #[.string ⟨#[]⟩, .slice none 0 0], .int .i64 20]) (by simp [results, Tryz.results79, go_sem, *]) rfl ?_
       first | exact mdPost_bad HP.out (by decide) (H.out.1.alloc H.out.1.size _) | exact mdPost_bad HP.out (by decide) (below_e2 (H.out.1.alloc H.out.1.size _) (by omega) _ _)
      ·have hin : inL (nkL r G ++ K.take j) x = false := by simpa using hin
       rw [hin] at hlk
       have hni : ¬ (x ∈ nkL r G \/ x ∈ K.take j) := by
        intro h
        rw [<- List.mem_append, <- inL_mem, hin] at h
        cases h
       have hup : upF (seF (nkL r G ++ K.take j)) x (some (.agg #[])) = seF (nkL r G ++ K.take (j + 1)) := seF_up (fun y => by rw [hst]; simp [or_assoc])
       have hnx := hnext hni
       obtain ⟨f, hf⟩ : ∃ f, seF (nkL r G ++ K.take j) = f := ⟨_, rfl⟩
       have HF := Hy hf
       rw [hf] at hmv hup
       have H := Hy (An hmv (An hup (An hc hnx)))
       clear hmv hc hbw y0 y1 y2 hin hhit hnext hst hx e0w hall hup hf hni hnx
       go_wp2_with (at_mapUpdate; refine wpList_mvPut rfl (.tmp 59) (.tmp 60) (.tmp 61) 192 193 rfl Tryz.underlying192 (w.heap.size + 1 + 1 + 1) n2 f rfl (mvAt_chg H.out.1 ((Chg.refl (fun _ => False) wr).alloc _) (fun h => h)) (by unfold maxLen; omega) x _ rfl rfl (by omega) ?_)
       intro w7 n7 hm7 hn7 ht7
       have hn8 : n7 <= i + (j + 1) := by have h := hn7; rw [<- HF.out] at h; have := npF_le h hn2; omega
       have H7 := Hy (An (show MvAt w7 (w.heap.size + 1 + 1 + 1) (seF (nkL r G ++ K.take (j + 1))) n7 by rw [<- H.out.2.1]; exact hm7) ((H.out.2.2.1.alloc _).trans (chg_turned ht7) (fun i _ h => h)))
       clear hm7 hn7 ht7
       go_wp2
       exact ⟨⟨j + 1, n7, by omega, by go_num, H7.out.1, hn8, H7.out.2, H.out.2.2.2⟩, by simp [intOf]; omega⟩
     ·obtain rfl : j = m := by omega
      have HP := Hy (HH.out.2 (hit_neg (fun y hy => hall y hy (by rw [<- HKl.out]; exact hy))))
      obtain ⟨t0, t1, t2⟩ := obj3 y0
      obtain ⟨p0, p1⟩ := obj2s y1
      have HWr := Hy (HWith.out wr hbw)
      have H := Hy (An hbw y2)
      clear hmv hc hbw y0 y1 y2 hall
      go_wp2_with fail
      with_reducible refine HWr.out.mono ?_
      rintro en w6 ⟨v, Lq, rfl, hok, hr, hb6⟩
      have hpa : PaAt w6 v R := ⟨Lq, _, hok, hr⟩
      obtain ⟨ra, rc, rfl⟩ := ownsRow_slice hr
      have x6 := obj_below H.out.2 hb6 (obj_lt H.out.2)
      obtain ⟨q0, q1⟩ := obj2s x6
      have u0 := obj_free x6 0
      have u1 := obj_free x6 1
      obtain ⟨rn, hrn⟩ : ∃ k, R.length = k := ⟨_, rfl⟩
      rw [hrn] at hpa ⊢
      have H6 := Hy (An hpa (An (H.out.1.trans (hb6.mono H.out.1.size)) x6))
      clear hpa hok hr hb6 x6 t0 t1 t2 p0 p1 hrn
      go_wp2
      obtain ⟨j0, j1⟩ := obj2s (set2_e H6.out.2.2 (.string ⟨dn.toArray⟩) (.slice ra rn rc))
      refine bodyPost_ret (v := .tuple #[.agg #[.string ⟨dn.toArray⟩, .slice ra rn rc], .int .i64 0]) (by simp [results, Tryz.results79, go_sem, *]) rfl ?_
      exact mdPost_ok HP.out (paAt_set2 H6.out.1 H6.out.2.2 (by decide) (by decide) _ _) (below_e2 H6.out.2.1 (by omega) _ _)
def CnAt (w : World) (b : Nat) (c : List (List UInt8)) (k : Nat) : Prop := ∃ f n, MvAt w b f n /\ n <= k /\ ∀ s, (f s).getD (.int .i64 0) = .int .i64 ((c.count s : Nat) : Int)
theorem cnAt_new (w : World) : CnAt (w.alloc (.map #[] 0)) w.heap.size [] 0 := ⟨_, 0, mvAt_new w, Nat.le_refl _, fun s => rfl⟩
theorem cnAt_chg {S : Nat -> Prop} {w w' : World} {b k : Nat} {c : List (List UInt8)} (h : CnAt w b c k) (hc : Chg S w w') (hs : ¬ S b) : CnAt w' b c k := by
 obtain ⟨f, n, h1, h2, h3⟩ := h
 exact ⟨f, n, mvAt_chg h1 hc hs, h2, h3⟩
theorem cnAt_le {w : World} {b k k' : Nat} {c : List (List UInt8)} (h : CnAt w b c k) (hk : k <= k') : CnAt w b c k' := by
 obtain ⟨f, n, h1, h2, h3⟩ := h
 exact ⟨f, n, h1, by omega, h3⟩
theorem _root_.Go.Proofs.MemK.Chg.ofBelow' {B : Nat} {w w' : World} (h : Below B w w') (hB : B <= w.heap.size) : Chg (fun k => B <= k) w w' := ⟨h.os, h.tape, h.output, h.size, fun k _ hn => h.block k (by omega)⟩
theorem np_le {f : List UInt8 -> Option Value} {s : List UInt8} {n n' k : Nat} (h : NPut f s n n') (hk : n <= k) : n' <= k + 1 := by
 unfold NPut at h
 split at h <;> omega
theorem cn_up {f : List UInt8 -> Option Value} {c c' : List (List UInt8)} {s : List UInt8} {x : Int} (h : ∀ t, (f t).getD (.int .i64 0) = .int .i64 ((c.count t : Nat) : Int)) (hx : x = ((c'.count s : Nat) : Int)) (ho : ∀ t, t ≠ s -> c'.count t = c.count t) :
  ∀ t, (upF f s (some (.int .i64 x)) t).getD (.int .i64 0) = .int .i64 ((c'.count t : Nat) : Int) := by
 intro t
 unfold upF
 by_cases e : t = s
 ·rw [if_pos e, e, <- hx]; rfl
 ·rw [if_neg e, h, ho t e]
theorem cn_snoc (c : List (List UInt8)) (s : List UInt8) : ((c.count s : Nat) : Int) + 1 = (((c ++ [s]).count s : Nat) : Int) := by
 rw [List.count_append, List.count_singleton_self]; omega
theorem cn_snoc_ne (c : List (List UInt8)) (s t : List UInt8) (h : t ≠ s) : (c ++ [s]).count t = c.count t := by
 rw [List.count_append, List.count_singleton]
 rw [if_neg (by simpa using fun e => h e.symm)]; rfl
theorem cn_erase (c : List (List UInt8)) (s : List UInt8) (h : s ∈ c) : ((c.count s : Nat) : Int) - 1 = (((c.erase s).count s : Nat) : Int) := by
 rw [List.count_erase_self]
 have := List.count_pos_iff.2 h
 omega
theorem cn_erase_ne (c : List (List UInt8)) (s t : List UInt8) (h : t ≠ s) : (c.erase s).count t = c.count t := List.count_erase_of_ne h
theorem cnzero (w : World) : (zeroValue 3).run Tryz.prog w = .ok (.int .i64 0) w := by kernel_rfl
theorem rem_step {r : Int} {G : List (List UInt8)} {K c kept : List (List UInt8)} (i : Nat) (hi : i < G.length) (h : (G.take i).foldl (remS r) (K, []) = (c, kept)) : (G.take (i + 1)).foldl (remS r) (K, []) = remS r (c, kept) G[i] := by
 rw [List.take_succ_eq_append_getElem hi, List.foldl_append, h]; rfl
theorem remS_yes {r : Int} {c kept : List (List UInt8)} {x M : List UInt8} (h : ruN r x = (M, true)) (hm : M ∈ c) : remS r (c, kept) x = (c.erase M, kept) := by
 unfold remS kyN; rw [h]; rw [if_pos ⟨rfl, hm⟩]
theorem remS_no {r : Int} {c kept : List (List UInt8)} {x M : List UInt8} {ok : Bool} (h : ruN r x = (M, ok)) (hm : ¬ (ok = true /\ M ∈ c)) : remS r (c, kept) x = (c, kept ++ [x]) := by
 unfold remS kyN; rw [h]; rw [if_neg hm]
theorem rem_end {r : Int} {G K c kept : List (List UInt8)} (h : G.foldl (remS r) (K, []) = (c, kept)) : remL r K G = (c, kept) := by
 have := rem_fold r G K []
 rw [h] at this
 simp only [List.nil_append] at this
 exact Prod.ext (Prod.mk.inj this).1.symm (Prod.mk.inj this).2.symm
theorem morem_any (r : Int) (sg : Bool) (L : List Atr) (dn n : List UInt8) (vs : List (List UInt8)) (av kv : Value) (w : World) (hE : EaAt w av L) (hC : Cln 200 200 L) (hK : TxR w kv (vs.map (kyN r))) (hok : mdOk r vs = true) (h0 : vs ≠ []) (hvl : vs.length <= 1000) (hnl : n.length <= 100000) (he : ErrOk w) :
  Calls Tryz.prog 76 #[.agg #[.string ⟨n.toArray⟩, .int .i64 r, .bool sg], .agg #[.string ⟨dn.toArray⟩, av], kv] w (MdPost dn (mdDel r L n vs) w) := by
 have hfL : FewE L := fewG_e hC.few (by omega) (by omega)
 obtain ⟨a, c, rfl⟩ := eaAt_slice hE
 obtain ⟨W1, hW1⟩ : ∃ W, ((w.alloc (.cells #[.string ⟨n.toArray⟩, .int .i64 r, .bool sg] 79)).alloc (.cells #[.string ⟨dn.toArray⟩, .slice a L.length c] 24)).alloc (.cells #[.string ⟨#[]⟩, .slice none 0 0] 24) = W := ⟨_, rfl⟩
 obtain ⟨x0, x1, x2, hb1, hz1⟩ := boxesM hW1
 have hmd := mdDel_is L n hok h0
 have HGet := Hy (fun w' (hb : Below w.heap.size w w') => get_any L dn n (.slice a L.length c) w' (eaAt_below hE hb) hfL (by omega))
 have HWo := Hy (fun w' (hb : Below w.heap.size w w') => without_any L dn n (.slice a L.length c) w' (eaAt_below hE hb) hfL)
 have HWi := Hy (fun (V : List (List UInt8)) (hV : V.length <= 200) (hVs : ∀ s ∈ V, s.length <= 100000) v kv w' (hv : EaAt w' v (woL L n)) (hk : TxR w' kv V) (hs : SlOk kv) => with_any (woL L n) dn n V v kv w' hv hk hs (fewG_e (fewG_snoc (fewG_mono (cln_wo hC n).few (Nat.le_refl 200) (Nat.le_refl 200)) (by omega) hV hVs) (by omega) (by omega)))
 have HNo := Hy (fun w' (hb : Below w.heap.size w w') s => runorm_any r s w' (errOk_below he hb))
 have HGl := Hy (cln_ge hC n)
 obtain ⟨ka, kc, rfl, hKc⟩ := hK
 have HKc := Hy hKc
 obtain ⟨P, hP⟩ : ∃ P, mdDel r L n vs = P := ⟨_, rfl⟩
 rw [hP] at hmd ⊢
 obtain ⟨G, hG⟩ : ∃ G, geL L n = G := ⟨_, rfl⟩
 rw [hG] at hmd HGet HGl
 obtain ⟨WO, hWO⟩ : ∃ G, woL L n = G := ⟨_, rfl⟩
 rw [hWO] at hmd HWo HWi
 obtain ⟨K, hKK⟩ : ∃ K, vs.map (kyN r) = K := ⟨_, rfl⟩
 rw [hKK] at hmd HKc
 have hKl : K.length = vs.length := by rw [<- hKK]; simp
 have hKb : ∀ i (h : i < K.length), K[i].length <= 4096 := by
  intro i h
  subst hKK
  simp only [List.getElem_map, kyN]
  exact ru_len _ _
 have HKb := Hy hKb
 have HMd := Hy hmd
 have HX := Hy (An x0 (An x1 (An x2 (An hb1 hz1))))
 have HW1 := Hy hW1
 obtain ⟨ln, hln⟩ : ∃ k, L.length = k := ⟨_, rfl⟩
 rw [hln] at HW1 HX x1 HGet HWo ⊢
 rw [show (vs.map (kyN r)).length = vs.length by simp]
 obtain ⟨m, hm⟩ : ∃ k, vs.length = k := ⟨_, rfl⟩
 rw [hm] at hKl hvl ⊢
 have HKl := Hy hKl
 have hmm := @run_makeMap Tryz.prog
 have hez := cnzero
 obtain ⟨W2, hW2⟩ : ∃ W, W1.alloc (.map #[] 0) = W := ⟨_, rfl⟩
 have hmp : CnAt W2 (w.heap.size + 1 + 1 + 1) [] 0 := by rw [<- hW2, show w.heap.size + 1 + 1 + 1 = W1.heap.size by omega]; exact cnAt_new W1
 have hb2 : Below W1.heap.size W1 W2 := by rw [<- hW2]; exact (Below.refl _ W1).alloc (Nat.le_refl _) _
 have hz2 : W2.heap.size = w.heap.size + 4 := by rw [<- hW2]; simp; omega
 have z0 : w.heap.size < W1.heap.size := by omega
 have z1 : w.heap.size + 1 < W1.heap.size := by omega
 have z2 : w.heap.size + 1 + 1 < W1.heap.size := by omega
 have HX2 := Hy (An hmp (An (hb1.trans (hb2.mono hb1.size)) (An hz2 (An (obj_below x0 hb2 z0) (An (obj_below x1 hb2 z1) (obj_below x2 hb2 z2))))))
 have HW2 := Hy hW2
 clear hE hfL hC hKc hok hnl he x0 x1 x2 hb1 hz1 hW1 hmd hP hG hWO hKK hKl hKb hln hm h0 hmp hb2 hz2 hW2
 go_enter Tryz.func76, Tryz.ntmps76
 go_wp2
 try rw [HW1.out]
 try rw [HW2.out]
 go_loopw [20] (fun x wr => ∃ i : Nat, i <= m /\ x = .int .i64 (i : Nat) /\ CnAt wr (w.heap.size + 1 + 1 + 1) (K.take i) i /\ Chg (fun k => k = w.heap.size + 1 + 1 + 1) W2 wr) (fun x _ => m - (intOf x).toNat)
 case atStart => exact ⟨0, by omega, rfl, by rw [List.take_zero]; exact HX2.out.1, Chg.refl _ _⟩
 case round =>
  obtain ⟨i, hi, rfl, hcn, hc⟩ := hrel
  by_cases hlt : i < m
  ·have hil : (i : Int) < (m : Int) := by omega
   have him : i < K.length := by rw [HKl.out]; exact hlt
   obtain ⟨g, o, rfl, hg, e0w⟩ := HKc.out i him
   have hgs : ¬ g = w.heap.size + 1 + 1 + 1 := by have := HX.out.2.2.2.1.size; omega
   have e0 : wr.cell? ⟨g, o + i, none⟩ = some (.string ⟨K[i].toArray⟩) := (chg_cell hc (Nat.lt_of_lt_of_le hg HX2.out.2.1.size) hgs (o + i)).trans ((HX2.out.2.1.cell (p := ⟨g, _, none⟩) hg).trans e0w)
   have hkb := HKb.out i him
   have hst : K.take (i + 1) = K.take i ++ [K[i]] := List.take_succ_eq_append_getElem him
   obtain ⟨x, hx⟩ : ∃ x, K[i] = x := ⟨_, rfl⟩
   rw [hx] at e0 hkb hst
   obtain ⟨C, hC⟩ : ∃ C, K.take i = C := ⟨_, rfl⟩
   have hcl : C.count x <= i := by
    have h1 : C.count x <= C.length := List.count_le_length
    rw [<- hC, List.length_take] at h1
    rw [<- hC]
    omega
   rw [hC] at hcn hst
   obtain ⟨f, n', hmv, hn', hfc⟩ := hcn
   have hlk := mv_look1 hmv Tryz.underlying125 (hez wr) x (by omega)
   rw [hfc x] at hlk
   have hsn := cn_snoc C x
   have hfx := fun y (hy : y = (((C ++ [x]).count x : Nat) : Int)) => cn_up (c' := C ++ [x]) hfc hy (fun t ht => cn_snoc_ne C x t ht)
   obtain ⟨q, hq⟩ : ∃ q, C.count x = q := ⟨_, rfl⟩
   rw [hq] at hlk hsn hcl
   have hq1 : (q : Int) + 1 <= 2000 := by omega
   have HH := Hy (An hmv (An hn' (An hc (An hfx (An hsn hst)))))
   clear hmv hn' hfc hfx hsn hst hc hq hC hx e0w hgs
   go_wp2_with (at_mapUpdate; refine wpList_mvPut rfl (.tmp 24) (.tmp 25) (.tmp 27) 125 3 rfl Tryz.underlying125 (w.heap.size + 1 + 1 + 1) n' f rfl HH.out.1 (by unfold maxLen; have := HH.out.2.1; omega) x _ rfl rfl (by omega) ?_)
   intro w7 n7 hm7 hn7 ht7
   have H7 := Hy (An (show CnAt w7 (w.heap.size + 1 + 1 + 1) (K.take (i + 1)) (i + 1) from ⟨_, n7, hm7, np_le hn7 HH.out.2.1, by rw [HH.out.2.2.2.2.2]; exact HH.out.2.2.2.1 _ HH.out.2.2.2.2.1⟩) (HH.out.2.2.1.trans (chg_turned ht7) (fun i _ h => h)))
   clear hm7 hn7 ht7
   go_wp2
   exact ⟨⟨i + 1, by omega, by go_num, H7.out.1, H7.out.2⟩, by simp [intOf]; omega⟩
  ·obtain rfl : i = m := by omega
   have hall : K.take i = K := by rw [<- HKl.out, List.take_length]
   rw [hall] at hcn
   have hb1s := HX.out.2.2.2.1.size
   have y0 := obj_chg HX2.out.2.2.2.1 hc (fun e => by have e : w.heap.size = w.heap.size + 1 + 1 + 1 := e; omega)
   have y1 := obj_chg HX2.out.2.2.2.2.1 hc (fun e => by have e : w.heap.size + 1 = w.heap.size + 1 + 1 + 1 := e; omega)
   have y2 := obj_chg HX2.out.2.2.2.2.2 hc (fun e => by have e : w.heap.size + 1 + 1 = w.heap.size + 1 + 1 + 1 := e; omega)
   have hbw : Below w.heap.size w wr := HX2.out.2.1.trans (hc.toBelow (by have := HX2.out.2.1.size; omega) (fun k _ e => by have e : k = w.heap.size + 1 + 1 + 1 := e; omega))
   have zmr : w.heap.size + 1 + 1 + 1 < wr.heap.size := by obtain ⟨f, n', h, _⟩ := hcn; exact mvAt_lt h
   obtain ⟨wk, rfl⟩ : ∃ x, x = wr := ⟨_, rfl⟩
   obtain ⟨t0, t1, t2⟩ := obj3 y0
   obtain ⟨p0, p1⟩ := obj2s y1
   have H5 := Hy (An hcn (An hbw (An y0 (An y1 y2))))
   clear hcn hc hbw y0 y1 y2 hall hlt hi
   go_wp2_with fail
   refine (HGet.out wk H5.out.2.1).mono ?_
   rintro en w4 ⟨gv, rfl, hgo, hb4⟩
   clear t0 t1 t2 p0 p1
   obtain ⟨ga, gc, rfl⟩ := ownsRow_slice hgo
   have hgr := txR_owns hgo
   have hgb : ∀ g o n c, Value.slice ga G.length gc = .slice (some ⟨g, o, none⟩) n c -> ¬ g = w.heap.size + 1 + 1 + 1 := by
    intro g o n c e e2
    have := hgo.lt g (by rw [e]; rfl)
    omega
   have y0 := obj_below H5.out.2.2.1 hb4 (obj_lt H5.out.2.2.1)
   have y1 := obj_below H5.out.2.2.2.1 hb4 (obj_lt H5.out.2.2.2.1)
   have y2 := obj_below H5.out.2.2.2.2 hb4 (obj_lt H5.out.2.2.2.2)
   have m4 := cnAt_chg H5.out.1 (Chg.ofBelow (S := fun _ => False) hb4) (fun h => h)
   have hbw4 := H5.out.2.1.trans (hb4.mono H5.out.2.1.size)
   obtain ⟨gl, hgl⟩ : ∃ k, G.length = k := ⟨_, rfl⟩
   have HGll := Hy hgl
   rw [hgl] at hgr hgb ⊢
   have hgl1 : gl <= 200 := by rw [<- hgl]; exact HGl.out.1
   have hs4 := hb4.size
   have H4 := Hy (An hgr (An hgb (An y0 (An y1 (An y2 (An m4 hbw4))))))
   clear hgo hgr hgb y0 y1 y2 m4 hbw4 hb4 hgl
   go_wp2
   go_loopw [11, 12, 34] (fun gq kq x wr => ∃ (j : Nat) (c kept : List (List UInt8)) (d : Nat), j <= gl /\ x = .int .i64 (j : Nat) /\ (G.take j).foldl (remS r) (K, []) = (c, kept) /\ c.length + d = K.length /\ gq = .int .i64 (d : Nat) /\ kept.length <= j /\ (∀ s ∈ kept, s ∈ G) /\ wr.ownsRow w4.heap.size 9 1 kq kept.length (sc kept) /\ CnAt wr (w.heap.size + 1 + 1 + 1) c (i + j) /\ Chg (fun k => k = w.heap.size + 1 + 1 + 1) w4 wr) (fun _ _ x _ => gl - (intOf x).toNat)
   case atStart => exact ⟨0, K, [], 0, by omega, rfl, by rw [List.take_zero]; rfl, by omega, rfl, Nat.le_refl _, (fun s h => by simp at h), World.ownsRow_nil _ _ _ _, H4.out.2.2.2.2.2.1, Chg.refl _ _⟩
   case round =>
    obtain ⟨j, c', kept, d, hj, rfl, hfo, hcd, rfl, hkl, hks, hrow, hcn, hc⟩ := hrel
    have hbw : Below w.heap.size w wr := H4.out.2.2.2.2.2.2.trans (hc.toBelow (by have := H4.out.2.2.2.2.2.2.size; omega) (fun k _ e => by have e : k = w.heap.size + 1 + 1 + 1 := e; omega))
    have y0 := obj_chg H4.out.2.2.1 hc (fun e => by have e : w.heap.size = w.heap.size + 1 + 1 + 1 := e; omega)
    have y1 := obj_chg H4.out.2.2.2.1 hc (fun e => by have e : w.heap.size + 1 = w.heap.size + 1 + 1 + 1 := e; omega)
    have y2 := obj_chg H4.out.2.2.2.2.1 hc (fun e => by have e : w.heap.size + 1 + 1 = w.heap.size + 1 + 1 + 1 := e; omega)
    have hgr := txR_chg H4.out.1 hc H4.out.2.1
    obtain ⟨kl, hkl2⟩ : ∃ k, kept.length = k := ⟨_, rfl⟩
    have HKl2 := Hy hkl2
    rw [hkl2] at hkl hrow
    obtain ⟨oa, oc, rfl⟩ := ownsRow_slice hrow
    by_cases hlt : j < gl
    ·have hjl : (j : Int) < (gl : Int) := by omega
     have hjm : j < G.length := by rw [HGll.out]; exact hlt
     have hxm := List.getElem_mem hjm
     obtain ⟨ga', gc', hv', hcells⟩ := hgr
     injection hv' with hv1 hv2 hv3
     subst hv1 hv3
     clear hv2
     obtain ⟨g, o, rfl, hg, e0⟩ := hcells j hjm
     have hst := rem_step (r := r) j hjm hfo
     obtain ⟨x, hx⟩ : ∃ x, G[j] = x := ⟨_, rfl⟩
     rw [hx] at e0 hst hxm
     have HNx := Hy (HNo.out wr hbw x)
     have hMl := ru_len r x
     obtain ⟨⟨M, ok⟩, hp⟩ : ∃ p, ruN r x = p := ⟨_, rfl⟩
     have HPx := Hy hp
     rw [hp] at HNx hMl
     dsimp only at hMl
     obtain ⟨t0, t1, t2⟩ := obj3 y0
     have H := Hy (An hst (An hcd (An hks hxm)))
     have HR := Hy (An hrow (An hcn hc))
     have hcdb : d <= 2000 := by have := HKl.out; omega
     clear hfo hcd hks hrow hcn hc hst hxm hx hp hcells y0 y1 y2 hbw hkl2
     go_wp2_with fail
     with_reducible refine HNx.out.mono ?_
     rintro en w6 ⟨rfl, hb6⟩
     dsimp only
     have hc6 := HR.out.2.2.below (hb6.mono HR.out.2.2.size)
     have hr6 := ownsRow_below HR.out.1 hb6
     have hm6 := cnAt_chg HR.out.2.1 (Chg.ofBelow (S := fun _ => False) hb6) (fun h => h)
     have H6 := Hy (An hc6 (An hr6 (An hm6 hc6.size)))
     clear hb6 hr6 e0 t0 t1 t2 hc6
     cases ok with
     | false =>
      have HNi := Hy (show ¬ (false = true /\ M ∈ c') from fun h => by cases h.1)
      clear hm6
      go_wp2_with (first
       | (at_builtin; refine wpList_pushm rfl (.tmp 58) (.tmp 60) 43 9 rfl w4.heap.size 1 16 (.string ByteArray.empty) Tryz.scinfo9 Tryz.underlying43 rfl (by decide) 1 [.string ⟨x.toArray⟩] rfl ?cp0 _ kl _ rfl _ rfl ?cp3 H6.out.2.1 ?cp1 ?cp2 H6.out.2.2.2 ?_)
       | go_in)
      case cp0 => first | rfl | (intro u hu; simp at hu; subst hu; rfl)
      case cp1 => unfold maxLen; omega
      case cp2 => omega
      case cp3 => first | rfl | simp
      intro v' w7 g1 g2
      have H7 := Hy (An g1 g2)
      clear g1 g2
      go_wp2
      refine ⟨⟨j + 1, c', kept ++ [x], d, by omega, by go_num, ?_, H.out.2.1, rfl, ?_, ?_, ?_, ?_, H6.out.1.below H7.out.2⟩, by simp [intOf]; omega⟩
      ·rw [H.out.1]; exact remS_no HPx.out (by first | exact HNi.out | exact fun h => HNi.out ⟨trivial, h.2⟩)
      ·rw [List.length_append, List.length_singleton, HKl2.out]; omega
      ·intro s hs
       rcases List.mem_append.1 hs with hs | hs
       ·exact H.out.2.2.1 s hs
       ·rw [List.mem_singleton] at hs; subst hs; exact H.out.2.2.2
      ·rw [List.length_append, List.length_singleton, HKl2.out, sc_snoc1]; exact H7.out.1
      ·have h8 := cnAt_chg H6.out.2.2.1 (Chg.ofBelow' H7.out.2 (by have := H6.out.1.size; omega)) (fun h => by have h : w4.heap.size <= w.heap.size + 1 + 1 + 1 := h; omega)
       exact cnAt_le h8 (by omega)
     | true =>
      obtain ⟨f, n', hmv, hn', hfc⟩ := hm6
      have hlk := mv_look1 hmv Tryz.underlying125 (hez w6) M (by omega)
      rw [hfc M] at hlk
      by_cases hmc : M ∈ c'
      ·have hq0 : 0 < c'.count M := List.count_pos_iff.2 hmc
       have hqb : c'.count M <= 2000 := by have h1 : c'.count M <= c'.length := List.count_le_length; have := H.out.2.1; have := HKl.out; omega
       have her := cn_erase c' M hmc
       have hfx := fun y (hy : y = (((c'.erase M).count M : Nat) : Int)) => cn_up (c' := c'.erase M) hfc hy (fun t ht => cn_erase_ne c' M t ht)
       have HS1 := Hy (remS_yes (kept := kept) HPx.out hmc)
       have hel : (c'.erase M).length + (d + 1) = K.length := by rw [List.length_erase_of_mem hmc]; have := List.length_pos_of_mem hmc; have := H.out.2.1; omega
       obtain ⟨q, hq⟩ : ∃ q, c'.count M = q := ⟨_, rfl⟩
       rw [hq] at hlk her hq0 hqb
       have hq1 : (0 : Int) < (q : Int) := by omega
       have hq2 : (q : Int) <= 2000 := by omega
       have HH := Hy (An hmv (An hn' (An hfx (An her hel))))
       clear hmv hn' hfc hfx her hq hmc hel hq0 hqb
       go_wp2_with (at_mapUpdate; refine wpList_mvPut rfl (.tmp 52) (.tmp 53) (.tmp 55) 125 3 rfl Tryz.underlying125 (w.heap.size + 1 + 1 + 1) n' f rfl HH.out.1 (by unfold maxLen; have := HH.out.2.1; omega) M _ rfl rfl (by omega) ?_)
       intro w7 n7 hm7 hn7 ht7
       have hc7 := H6.out.1.trans (chg_turned ht7) (fun i _ h => h)
       have hr7 := ownsRow_chg H6.out.2.1 (chg_turned ht7) (fun k hk e => by have := H6.out.2.1.lt k hk; have e : k = w.heap.size + 1 + 1 + 1 := e; omega)
       have H7 := Hy (An (show CnAt w7 (w.heap.size + 1 + 1 + 1) (c'.erase M) (i + (j + 1)) from ⟨_, n7, hm7, np_le hn7 (by have := HH.out.2.1; omega), HH.out.2.2.1 _ HH.out.2.2.2.1⟩) (An hc7 hr7))
       clear hm7 hn7 ht7 hc7 hr7
       go_wp2
       exact ⟨⟨j + 1, c'.erase M, kept, d + 1, by omega, by go_num, by rw [H.out.1]; exact HS1.out, HH.out.2.2.2.2, by go_num, by rw [HKl2.out]; omega, H.out.2.2.1, by rw [HKl2.out]; exact H7.out.2.2, H7.out.1, H7.out.2.1⟩, by simp [intOf]; omega⟩
      ·have hq0 : c'.count M = 0 := List.count_eq_zero.2 hmc
       rw [hq0] at hlk
       have hq1 : ¬ (0 : Int) < ((0 : Nat) : Int) := by omega
       have HNi := Hy (show ¬ (true = true /\ M ∈ c') from fun h => hmc h.2)
       clear hmv hn' hfc hmc hq0
       go_wp2_with (first
        | (at_builtin; refine wpList_pushm rfl (.tmp 58) (.tmp 60) 43 9 rfl w4.heap.size 1 16 (.string ByteArray.empty) Tryz.scinfo9 Tryz.underlying43 rfl (by decide) 1 [.string ⟨x.toArray⟩] rfl ?cq0 _ kl _ rfl _ rfl ?cq3 H6.out.2.1 ?cq1 ?cq2 H6.out.2.2.2 ?_)
        | go_in)
       case cq0 => first | rfl | (intro u hu; simp at hu; subst hu; rfl)
       case cq1 => unfold maxLen; omega
       case cq2 => omega
       case cq3 => first | rfl | simp
       intro v' w7 g1 g2
       have H7 := Hy (An g1 g2)
       clear g1 g2
       go_wp2
       refine ⟨⟨j + 1, c', kept ++ [x], d, by omega, by go_num, ?_, H.out.2.1, rfl, ?_, ?_, ?_, ?_, H6.out.1.below H7.out.2⟩, by simp [intOf]; omega⟩
       ·rw [H.out.1]; exact remS_no HPx.out (by first | exact HNi.out | exact fun h => HNi.out ⟨trivial, h.2⟩)
       ·rw [List.length_append, List.length_singleton, HKl2.out]; omega
       ·intro s hs
        rcases List.mem_append.1 hs with hs | hs
        ·exact H.out.2.2.1 s hs
        ·rw [List.mem_singleton] at hs; subst hs; exact H.out.2.2.2
       ·rw [List.length_append, List.length_singleton, HKl2.out, sc_snoc1]; exact H7.out.1
       ·have h8 := cnAt_chg H6.out.2.2.1 (Chg.ofBelow' H7.out.2 (by have := H6.out.1.size; omega)) (fun h => by have h : w4.heap.size <= w.heap.size + 1 + 1 + 1 := h; omega)
        exact cnAt_le h8 (by omega)
    ·obtain rfl : j = gl := by omega
     have hre : remL r K G = (c', kept) := by
      rw [<- HGll.out, List.take_length] at hfo
      exact rem_end hfo
     have hmd := HMd.out
     rw [hre] at hmd
     dsimp only at hmd
     have hKl3 := HKl.out
     obtain ⟨q0, q1⟩ := obj2s y2
     have u0 := obj_free y2 0
     have u1 := obj_free y2 1
     by_cases hc0 : c' = []
     ·rw [if_pos hc0] at hmd
      have hdm : d = i := by rw [hc0] at hcd; simp at hcd; omega
      have hlt2 : ¬ ((d : Int) < (i : Int)) := by omega
      obtain ⟨t0, t1, t2⟩ := obj3 y0
      obtain ⟨p0, p1⟩ := obj2s y1
      have HP := Hy hmd
      have hkb : ∀ s ∈ kept, s.length <= 100000 := fun s hs => HGl.out.2 s (hks s hs)
      have hkl3 : kept.length <= 200 := by rw [hkl2]; omega
      have HWi2 := Hy (fun v kv w' (hv : EaAt w' v WO) (hk : TxR w' kv kept) (hs : SlOk kv) => HWi.out kept hkl3 hkb v kv w' hv hk hs)
      have HWo2 := Hy (fun w' (hb : Below wr.heap.size wr w') => HWo.out w' (hbw.trans (hb.mono hbw.size)))
      rw [<- hkl2] at hrow
      have htx := txR_owns hrow
      have hsk := slOk_owns hrow
      have z0 := obj_lt y0
      have z1 := obj_lt y1
      have z2 := obj_lt y2
      rw [hkl2] at htx hrow hsk
      have hne1 : w.heap.size ≠ w.heap.size + 1 + 1 := by omega
      have hne2 : w.heap.size + 1 ≠ w.heap.size + 1 + 1 := by omega
      obtain ⟨Z, hZ⟩ : ∃ Z, clA (WO ++ [(n, kept)]) = Z := ⟨_, rfl⟩
      rw [hZ] at HWi2 HP
      have H := Hy (An hbw (An y2 (An htx hsk)))
      clear hdm hc0 hmd hbw y0 y1 y2 hgr hcd hfo hkl hks hrow hcn hc hre hkb hkl3 hkl2 htx hsk hKl3 hZ q0 q1 u0 u1 t1 t2
      go_wp2_with fail
      go_region_held3 (fun w' => w'.cell? ⟨w.heap.size, 0, none⟩ = some (.string ⟨n.toArray⟩) /\ w'.cell? ⟨w.heap.size + 1, 0, none⟩ = some (.string ⟨dn.toArray⟩) /\ w'.cell? ⟨w.heap.size + 1, 1, none⟩ = some (.slice a ln c)) (first | exact ⟨d0, d1, d2⟩ | exact ⟨f0, f1, f2⟩ | exact ⟨t0, p0, p1⟩ | exact ⟨(cell_other2 hne1 _ _ _ _ _).trans d0, (cell_other2 hne2 _ _ _ _ _).trans d1, (cell_other2 hne2 _ _ _ _ _).trans d2⟩ | go_keep)
       (first
        | (go_at_call 78; (with_reducible refine (HWo2.out _ (by first | exact Below.refl _ _ | exact (Below.refl _ _).drew)).mono ?_); rintro en w5 ⟨v, Lq, rfl, hok, hr, hb5⟩; have hbV : Below wr.heap.size wr w5 := (by first | exact (Below.refl _ wr).drew.trans hb5 | exact hb5); have HEa := Hy (paAt_ea (⟨Lq, _, hok, hr⟩ : PaAt w5 v WO)); obtain ⟨ya, yc, rfl⟩ := ownsRow_slice hr; have f0 := (hbV.cell (p := ⟨w.heap.size, 0, none⟩) z0).trans t0; have f1 := (hbV.cell (p := ⟨w.heap.size + 1, 0, none⟩) z1).trans p0; have f2 := (hbV.cell (p := ⟨w.heap.size + 1, 1, none⟩) z1).trans p1; clear hb5 hok hr)
        | (go_at_call 132; (with_reducible refine (HWi2.out _ _ _ HEa.out (txR_below H.out.2.2.1 hbV) H.out.2.2.2).mono ?_); rintro en w6 ⟨v, Lq, rfl, hok, hr, hb6⟩; have hbW : Below wr.heap.size wr w6 := hbV.trans (hb6.mono hbV.size); have hpa : PaAt w6 v Z := ⟨Lq, _, hok, hr⟩; obtain ⟨xa, xc, rfl⟩ := ownsRow_slice hr; have d0 := (hbW.cell (p := ⟨w.heap.size, 0, none⟩) z0).trans t0; have d1 := (hbW.cell (p := ⟨w.heap.size + 1, 0, none⟩) z1).trans p0; have d2 := (hbW.cell (p := ⟨w.heap.size + 1, 1, none⟩) z1).trans p1; have x6 := obj_below H.out.2.1 hbW z2; obtain ⟨s0, s1⟩ := obj2s x6; have u0 := obj_free x6 0; have u1 := obj_free x6 1; have HR := Hy (An hpa (An hbW x6)); clear hok hr hb6 hbW x6 hpa))
      all_goals
       clear d0 d1 d2 f0 f1 f2 t0 p0 p1
       go_wp2
       obtain ⟨j0, j1⟩ := obj2s (set2_e HR.out.2.2 (.string ⟨dn.toArray⟩) (.slice xa Z.length xc))
       refine bodyPost_ret (v := .tuple #[.agg #[.string ⟨dn.toArray⟩, .slice xa Z.length xc], .int .i64 0]) (by simp [results, Tryz.results76, go_sem, *]) rfl ?_
       exact mdPost_ok HP.out (paAt_set2 HR.out.1 HR.out.2.2 (by decide) (by decide) _ _) (below_e2 (H.out.1.trans (HR.out.2.1.mono H.out.1.size)) (by omega) _ _)
     ·rw [if_neg hc0] at hmd
      have hcl : 0 < c'.length := List.length_pos_iff.2 hc0
      have hlt2 : (d : Int) < (i : Int) := by omega
      have HP := Hy (show P.2 = 16 by rw [hmd])
      have H := Hy (An hbw y2)
      clear hc0 hmd hbw y0 y1 y2 hgr hcd hfo hkl hks hrow hcn hc hre hcl hkl2 hKl3
      go_wp2
      obtain ⟨j0, j1⟩ := obj2s (set2_e H.out.2 (.string ⟨#[]⟩) (.slice none 0 0))
      refine bodyPost_ret (v := .tuple #[.agg #[.string ⟨#[]⟩, .slice none 0 0], .int .i64 16]) (by simp [results, Tryz.results76, go_sem, *]) rfl ?_
      first | exact mdPost_bad HP.out (by decide) H.out.1 | exact mdPost_bad HP.out (by decide) (below_e2 H.out.1 (by omega) _ _)
theorem boxesA {w W1 : World} {a b c d e i j k f g : Value} (h : (((w.alloc (.cells #[a, b, c] 79)).alloc (.cells #[d, e] 24)).alloc (.cells #[i, j, k] 47)).alloc (.cells #[f, g] 24) = W1) :
  W1.heap[w.heap.size]? = some (.cells #[a, b, c] 79 (0, 0)) /\ W1.heap[w.heap.size + 1]? = some (.cells #[d, e] 24 (0, 0)) /\ W1.heap[w.heap.size + 1 + 1]? = some (.cells #[i, j, k] 47 (0, 0)) /\ W1.heap[w.heap.size + 1 + 1 + 1]? = some (.cells #[f, g] 24 (0, 0)) /\ Below w.heap.size w W1 /\ W1.heap.size = w.heap.size + 4 := by
 obtain ⟨W0, hW0⟩ : ∃ W, w.alloc (.cells #[a, b, c] 79) = W := ⟨_, rfl⟩
 rw [hW0] at h
 obtain ⟨W2, hW2⟩ : ∃ W, W0.alloc (.cells #[d, e] 24) = W := ⟨_, rfl⟩
 rw [hW2] at h
 obtain ⟨W3, hW3⟩ : ∃ W, W2.alloc (.cells #[i, j, k] 47) = W := ⟨_, rfl⟩
 rw [hW3] at h
 have s0 : W0.heap.size = w.heap.size + 1 := by rw [<- hW0]; simp
 have s2 : W2.heap.size = w.heap.size + 1 + 1 := by rw [<- hW2]; simp [s0]
 have s3 : W3.heap.size = w.heap.size + 1 + 1 + 1 := by rw [<- hW3]; simp [s2]
 have y0 : W0.heap[w.heap.size]? = some (.cells #[a, b, c] 79 (0, 0)) := by rw [<- hW0]; exact heap_alloc_new w _
 have y2 : W2.heap[w.heap.size + 1]? = some (.cells #[d, e] 24 (0, 0)) := by rw [<- hW2, <- s0]; exact heap_alloc_new W0 _
 have y3 : W3.heap[w.heap.size + 1 + 1]? = some (.cells #[i, j, k] 47 (0, 0)) := by rw [<- hW3, <- s2]; exact heap_alloc_new W2 _
 have y4 : W1.heap[w.heap.size + 1 + 1 + 1]? = some (.cells #[f, g] 24 (0, 0)) := by rw [<- h, <- s3]; exact heap_alloc_new W3 _
 have b0 : Below w.heap.size w W0 := by rw [<- hW0]; exact (Below.refl _ w).alloc (Nat.le_refl _) _
 refine ⟨?_, ?_, ?_, y4, ?_, by rw [<- h]; simp [s3]⟩
 ·rw [<- h, <- hW3, <- hW2]; exact obj_alloc (obj_alloc (obj_alloc y0 _) _) _
 ·rw [<- h, <- hW3]; exact obj_alloc (obj_alloc y2 _) _
 ·rw [<- h]; exact obj_alloc y3 _
 ·rw [<- h, <- hW3, <- hW2]; exact ((b0.alloc b0.size _).alloc (by simp; omega) _).alloc (by simp; omega) _
theorem obj_set2o {w : World} {g k : Nat} {o : Obj} (h : w.heap[k]? = some o) (hk : k ≠ g) (a b : Value) : ((w.setCell ⟨g, 0, none⟩ a).setCell ⟨g, 1, none⟩ b).heap[k]? = some o :=
 obj_set_other (obj_set_other h (p := ⟨g, 0, none⟩) hk _) (p := ⟨g, 1, none⟩) hk _
def mdAt (op r : Int) (L : List Atr) (n : List UInt8) (vs : List (List UInt8)) : List Atr × Int := if mdOk r vs = true then mdOp op r L n vs else ([], 21)
inductive MdWay (op r : Int) (L : List Atr) (n : List UInt8) (vs : List (List UInt8)) (p : List Atr × Int) : Prop where
 | syn (h : mdOk r vs = false) (e : p.2 = 21)
 | rem (h : mdOk r vs = true) (ho : op = 1) (h0 : vs ≠ []) (e : p = mdDel r L n vs)
 | non (h : mdOk r vs = true) (ho : op = 1) (h0 : vs = []) (hg : geL L n = []) (e : p.2 = 16)
 | del (h : mdOk r vs = true) (ho : op = 1) (h0 : vs = []) (hg : geL L n ≠ []) (e : p = (woL L n, 0))
 | rep0 (h : mdOk r vs = true) (ho : op = 2) (h0 : vs = []) (e : p = (woL L n, 0))
 | rep (h : mdOk r vs = true) (ho : op = 2) (h0 : vs ≠ []) (e : p = mdAdd r (woL L n) n vs)
 | add (h : mdOk r vs = true) (ho : op = 0) (e : p = mdAdd r L n vs)
 | oth (h : mdOk r vs = true) (h0 : op ≠ 0) (h1 : op ≠ 1) (h2 : op ≠ 2) (e : p.2 = 2)
theorem md_way (op r : Int) (L : List Atr) (n : List UInt8) (vs : List (List UInt8)) : MdWay op r L n vs (mdAt op r L n vs) := by
 unfold mdAt
 cases h : mdOk r vs with
 | false => exact .syn h (by rw [if_neg (by simp)])
 | true =>
  rw [if_pos rfl]
  unfold mdOp
  by_cases o0 : op = 0
  ·rw [if_pos o0]; exact .add h o0 rfl
  rw [if_neg o0]
  by_cases o1 : op = 1
  ·rw [if_pos o1]
   by_cases h0 : vs = []
   ·subst h0
    rw [mdDel_nil]
    by_cases hg : geL L n = []
    ·rw [if_pos hg]; exact .non h o1 rfl hg rfl
    ·rw [if_neg hg, mdRep_nil]; exact .del h o1 rfl hg rfl
   ·exact .rem h o1 h0 rfl
  rw [if_neg o1]
  by_cases o2 : op = 2
  ·rw [if_pos o2]
   by_cases h0 : vs = []
   ·subst h0; rw [mdRep_nil]; exact .rep0 h o2 rfl rfl
   ·rw [mdRep_is L n h h0]; exact .rep h o2 h0 rfl
  ·rw [if_neg o2]; exact .oth h o0 o1 o2 rfl
theorem moap_any (op r : Int) (sg : Bool) (L : List Atr) (dn n ma : List UInt8) (vs : List (List UInt8)) (av vv : Value) (w : World) (hE : EaAt w av L) (hC : Cln 100 170 L) (hV : TxR w vv vs) (hk : SlOk vv) (hvl : vs.length <= 8) (hvb : ∀ s ∈ vs, s.length <= 100000) (hnl : n.length <= 100000) (he : ErrOk w) :
  Calls Tryz.prog 38 #[.agg #[.string ⟨n.toArray⟩, .int .i64 r, .bool sg], .agg #[.string ⟨dn.toArray⟩, av], .agg #[.int .i64 op, .string ⟨ma.toArray⟩, vv]] w (MdPost dn (mdAt op r L n vs) w) := by
 have hfL : FewE L := fewG_e hC.few (by omega) (by omega)
 have hway := md_way op r L n vs
 obtain ⟨va, vc, rfl, hVc⟩ := hV
 have hV : TxR w (.slice va vs.length vc) vs := ⟨va, vc, rfl, hVc⟩
 obtain ⟨a, c, rfl⟩ := eaAt_slice hE
 obtain ⟨W1, hW1⟩ : ∃ W, (((w.alloc (.cells #[.string ⟨n.toArray⟩, .int .i64 r, .bool sg] 79)).alloc (.cells #[.string ⟨dn.toArray⟩, .slice a L.length c] 24)).alloc (.cells #[.int .i64 op, .string ⟨ma.toArray⟩, .slice va vs.length vc] 47)).alloc (.cells #[.string ⟨#[]⟩, .slice none 0 0] 24) = W := ⟨_, rfl⟩
 obtain ⟨x0, x1, x2, x3, hb1, hz1⟩ := boxesA hW1
 have HNrm := Hy (monrm_any r vs (.slice va vs.length vc) W1 (by omega) (txR_below hV hb1) (errOk_below he hb1))
 have HGet := Hy (fun w' (hb : Below w.heap.size w w') => get_any L dn n (.slice a L.length c) w' (eaAt_below hE hb) hfL (by omega))
 have HWo := Hy (fun w' (hb : Below w.heap.size w w') => without_any L dn n (.slice a L.length c) w' (eaAt_below hE hb) hfL)
 have HRem := Hy (fun w' ka kc (hb : Below w.heap.size w w') (hok : mdOk r vs = true) (h0 : vs ≠ []) (hK : TxR w' (.slice ka vs.length kc) (vs.map (kyN r))) => morem_any r sg L dn n vs (.slice a L.length c) (.slice ka vs.length kc) w' (eaAt_below hE hb) (cln_mono hC (by omega) (by omega)) hK hok h0 (by omega) hnl (errOk_below he hb))
 have HAdd := Hy (fun w' ka kc (hb : Below w.heap.size w w') (hok : mdOk r vs = true) (hK : TxR w' (.slice ka vs.length kc) (vs.map (kyN r))) => moadd_any r sg L dn n vs (.slice a L.length c) (.slice va vs.length vc) (.slice ka vs.length kc) w' (eaAt_below hE hb) (fewG_e (fewG_snoc hC.few hnl (by omega) hvb) (by omega) (by omega)) (txR_below hV hb) hk hK hok (by omega) hnl (errOk_below he hb))
 have HAdw := Hy (fun w' ea ka kc (hb : Below w.heap.size w w') (hok : mdOk r vs = true) (hEa : EaAt w' ea (woL L n)) (hK : TxR w' (.slice ka vs.length kc) (vs.map (kyN r))) => moadd_any r sg (woL L n) dn n vs ea (.slice va vs.length vc) (.slice ka vs.length kc) w' hEa (fewG_e (fewG_snoc (cln_wo hC n).few hnl (by omega) hvb) (by omega) (by omega)) (txR_below hV hb) hk hK hok (by omega) hnl (errOk_below he hb))
 have hGl : (geL L n).length <= 170 := (cln_ge hC n).1
 obtain ⟨P, hP⟩ : ∃ P, mdAt op r L n vs = P := ⟨_, rfl⟩
 rw [hP] at hway ⊢
 have hvne : vs ≠ [] -> ¬ ((vs.length : Int) = 0) := fun h e => h (List.length_eq_zero_iff.1 (by omega))
 have hve : vs = [] -> vs.length = 0 := fun h => by rw [h]; rfl
 have hgne : geL L n ≠ [] -> ¬ (((geL L n).length : Int) = 0) := fun h e => h (List.length_eq_zero_iff.1 (by omega))
 have hge : geL L n = [] -> (geL L n).length = 0 := fun h => by rw [h]; rfl
 have HX := Hy (An x0 (An x1 (An x2 (An x3 (An hb1 hz1)))))
 have HW1 := Hy hW1
 obtain ⟨ln, hln⟩ : ∃ k, L.length = k := ⟨_, rfl⟩
 rw [hln] at HW1 HX HGet HWo HRem HAdd ⊢
 obtain ⟨m, hm⟩ : ∃ k, vs.length = k := ⟨_, rfl⟩
 rw [hm] at HW1 HX HNrm HRem HAdd HAdw hvne hve ⊢
 have HM := Hy hm
 have HK2 := Hy (show (vs.map (kyN r)).length = m by rw [List.length_map]; exact hm)
 obtain ⟨GL, hGL⟩ : ∃ k, geL L n = k := ⟨_, rfl⟩
 rw [hGL] at HGet hgne hge hGl
 have HGL := Hy hGL
 have z0 : w.heap.size < W1.heap.size := by omega
 have z1 : w.heap.size + 1 < W1.heap.size := by omega
 have z2 : w.heap.size + 1 + 1 < W1.heap.size := by omega
 have z3 : w.heap.size + 1 + 1 + 1 < W1.heap.size := by omega
 obtain ⟨t0, t1, t2⟩ := obj3 HX.out.1
 obtain ⟨m0, m1, m2⟩ := obj3 HX.out.2.2.1
 have HK := Hy (An hvne (An hve (An hgne (An hge hGl))))
 clear hE hfL hC hVc hV hk hvl hvb hnl he x0 x1 x2 x3 hb1 hz1 hW1 hP hln hm hGL hvne hve hgne hge hGl
 go_enter Tryz.func38, Tryz.ntmps38
 go_wp2_with fail
 try rw [HW1.out]
 with_reducible refine HNrm.out.mono ?_
 rintro en w5 ⟨hbad, hgood, hb5⟩
 rw [HM.out] at hgood
 have hbw : Below w.heap.size w w5 := HX.out.2.2.2.2.1.trans (hb5.mono HX.out.2.2.2.2.1.size)
 have y0 := obj_below HX.out.1 hb5 z0
 have y1 := obj_below HX.out.2.1 hb5 z1
 have y2 := obj_below HX.out.2.2.1 hb5 z2
 have y3 := obj_below HX.out.2.2.2.1 hb5 z3
 have hne13 : w.heap.size + 1 ≠ w.heap.size + 1 + 1 + 1 := by omega
 have HY := Hy (An y0 (An y1 (An y2 (An y3 hbw))))
 obtain ⟨tt0, tt1, tt2⟩ := obj3 y0
 obtain ⟨e0, e1⟩ := obj2s y1
 obtain ⟨mm0, mm1, mm2⟩ := obj3 y2
 obtain ⟨q0, q1⟩ := obj2s y3
 have u0 := obj_free y3 0
 have u1 := obj_free y3 1
 have v0 := obj_free y1 0
 have v1 := obj_free y1 1
 have HBad := Hy hbad
 have HGood := Hy hgood
 clear hbad hgood hb5 hbw y0 y1 y2 y3 t0 t1 t2 m0 m1 m2
 cases hway with
 | syn h e =>
  have HP := Hy e
  obtain rfl := HBad.out h
  clear h e
  go_wp2
  obtain ⟨j0, j1⟩ := obj2s (set2_e HY.out.2.2.2.1 (.string ⟨#[]⟩) (.slice none 0 0))
  refine bodyPost_ret (v := .tuple #[.agg #[.string ⟨#[]⟩, .slice none 0 0], .int .i64 21]) (by simp [results, Tryz.results38, go_sem, *]) rfl ?_
  exact mdPost_bad HP.out (by decide) (below_e2 HY.out.2.2.2.2 (by omega) _ _)
 | oth h h0 h1 h2 e =>
  have HP := Hy e
  obtain ⟨ka, kc, rfl, hkt⟩ := HGood.out h
  have o0 : (op == 0) = false := by simpa using h0
  have o1 : (op == 1) = false := by simpa using h1
  have o2 : (op == 2) = false := by simpa using h2
  clear h e hkt h0 h1 h2
  go_wp2
  obtain ⟨j0, j1⟩ := obj2s (set2_e HY.out.2.2.2.1 (.string ⟨#[]⟩) (.slice none 0 0))
  refine bodyPost_ret (v := .tuple #[.agg #[.string ⟨#[]⟩, .slice none 0 0], .int .i64 2]) (by simp [results, Tryz.results38, go_sem, *]) rfl ?_
  exact mdPost_bad HP.out (by decide) (below_e2 HY.out.2.2.2.2 (by omega) _ _)
 | add h ho e =>
  subst ho e
  obtain ⟨ka, kc, rfl, hkt⟩ := HGood.out h
  have HA := Hy (HAdd.out w5 ka kc HY.out.2.2.2.2 h (by have h9 := txR_owns (l := vs.map (kyN r)) (by rw [HK2.out]; exact hkt); first | exact h9 | (rw [HK2.out] at h9; exact h9)))
  clear h hkt
  go_wp2_with fail
  with_reducible refine HA.out.mono ?_
  rintro en w6 ⟨d, ra, rn, rc, rfl, hpa, hb6⟩
  have y6 := obj_below HY.out.2.2.2.1 hb6 (obj_lt HY.out.2.2.2.1)
  obtain ⟨q0, q1⟩ := obj2s y6
  have u0 := obj_free y6 0
  have u1 := obj_free y6 1
  have H6 := Hy (An hpa (An (HY.out.2.2.2.2.trans (hb6.mono HY.out.2.2.2.2.size)) y6))
  clear hpa hb6 y6 e0 e1 v0 v1 tt0 tt1 tt2 mm0 mm1 mm2
  obtain ⟨pc, hpc⟩ : ∃ x, (mdAdd r L n vs).2 = x := ⟨_, rfl⟩
  rw [hpc]
  have HPc := Hy hpc
  clear hpc
  go_wp2
  obtain ⟨j0, j1⟩ := obj2s (set2_e H6.out.2.2 (.string ⟨d⟩) (.slice ra rn rc))
  refine bodyPost_ret (v := .tuple #[.agg #[.string ⟨d⟩, .slice ra rn rc], .int .i64 pc]) (by simp [results, Tryz.results38, go_sem, *]) rfl ?_
  exact ⟨d, ra, rn, rc, by rw [HPc.out], fun hz => ⟨(H6.out.1 hz).1, paAt_set2 (H6.out.1 hz).2 H6.out.2.2 (by decide) (by decide) _ _⟩, below_e2 H6.out.2.1 (by omega) _ _⟩
 | rem h ho h0 e =>
  subst ho e
  obtain ⟨ka, kc, rfl, hkt⟩ := HGood.out h
  have HA := Hy (HRem.out w5 ka kc HY.out.2.2.2.2 h h0 (by have h9 := txR_owns (l := vs.map (kyN r)) (by rw [HK2.out]; exact hkt); first | exact h9 | (rw [HK2.out] at h9; exact h9)))
  have hm0 : (0 : Int) < (m : Int) := by have := HK.out.1 h0; omega
  clear h hkt h0
  go_wp2_with fail
  with_reducible refine HA.out.mono ?_
  rintro en w6 ⟨d, ra, rn, rc, rfl, hpa, hb6⟩
  have y6 := obj_below HY.out.2.2.2.1 hb6 (obj_lt HY.out.2.2.2.1)
  obtain ⟨q0, q1⟩ := obj2s y6
  have u0 := obj_free y6 0
  have u1 := obj_free y6 1
  have H6 := Hy (An hpa (An (HY.out.2.2.2.2.trans (hb6.mono HY.out.2.2.2.2.size)) y6))
  clear hpa hb6 y6 e0 e1 v0 v1 tt0 tt1 tt2 mm0 mm1 mm2
  obtain ⟨pc, hpc⟩ : ∃ x, (mdDel r L n vs).2 = x := ⟨_, rfl⟩
  rw [hpc]
  have HPc := Hy hpc
  clear hpc
  go_wp2
  obtain ⟨j0, j1⟩ := obj2s (set2_e H6.out.2.2 (.string ⟨d⟩) (.slice ra rn rc))
  refine bodyPost_ret (v := .tuple #[.agg #[.string ⟨d⟩, .slice ra rn rc], .int .i64 pc]) (by simp [results, Tryz.results38, go_sem, *]) rfl ?_
  exact ⟨d, ra, rn, rc, by rw [HPc.out], fun hz => ⟨(H6.out.1 hz).1, paAt_set2 (H6.out.1 hz).2 H6.out.2.2 (by decide) (by decide) _ _⟩, below_e2 H6.out.2.1 (by omega) _ _⟩
 | rep0 h ho h0 e =>
  subst ho
  have HP := Hy e
  obtain ⟨ka, kc, rfl, hkt⟩ := HGood.out h
  have hm0 := HK.out.2.1 h0
  have hmi : ((m : Int) == 0) = true := by simp [hm0]
  have hmi2 : (m : Int) = 0 := by omega
  clear h hkt h0 e hm0
  go_wp2_with fail
  with_reducible refine (HWo.out w5 HY.out.2.2.2.2).mono ?_
  rintro en w7 ⟨v, Lq, rfl, hok, hr, hb7⟩
  have hpa : PaAt w7 v (woL L n) := ⟨Lq, _, hok, hr⟩
  obtain ⟨xa, xc, rfl⟩ := ownsRow_slice hr
  obtain ⟨xn, hxn⟩ : ∃ k, (woL L n).length = k := ⟨_, rfl⟩
  rw [hxn] at hpa ⊢
  have z0 := obj_lt HY.out.1
  have z1 := obj_lt HY.out.2.1
  have z3 := obj_lt HY.out.2.2.2.1
  have y0 := obj_below HY.out.1 hb7 z0
  have y1 := obj_below HY.out.2.1 hb7 z1
  have y3 := obj_below HY.out.2.2.2.1 hb7 z3
  obtain ⟨W8, hW8⟩ : ∃ W, (w7.setCell ⟨w.heap.size + 1, 0, none⟩ (.string ⟨dn.toArray⟩)).setCell ⟨w.heap.size + 1, 1, none⟩ (.slice xa xn xc) = W := ⟨_, rfl⟩
  have y0' := obj_set2o y0 (show w.heap.size ≠ w.heap.size + 1 by omega) (.string ⟨dn.toArray⟩) (.slice xa xn xc)
  have y1' := set2_e y1 (.string ⟨dn.toArray⟩) (.slice xa xn xc)
  have y3' := obj_set2o y3 (show w.heap.size + 1 + 1 + 1 ≠ w.heap.size + 1 by omega) (.string ⟨dn.toArray⟩) (.slice xa xn xc)
  have hpa8 := paAt_set2 hpa y1 (by decide) (by decide) (.string ⟨dn.toArray⟩) (.slice xa xn xc)
  have hbw8 := below_e2 (HY.out.2.2.2.2.trans (hb7.mono HY.out.2.2.2.2.size)) (show w.heap.size <= w.heap.size + 1 by omega) (.string ⟨dn.toArray⟩) (.slice xa xn xc)
  obtain ⟨c0, c1⟩ := obj2s y1'
  obtain ⟨q0, q1⟩ := obj2s y3'
  have u0 := obj_free y3' 0
  have u1 := obj_free y3' 1
  obtain ⟨e0, e1⟩ := obj2s y1
  have v0 := obj_free y1 0
  have v1 := obj_free y1 1
  have H8 := Hy (An hpa8 (An hbw8 y3'))
  clear hpa hok hr hb7 y0 y1 y3 hpa8 hbw8 y0' y1' y3' hW8 hxn tt0 tt1 tt2 mm0 mm1 mm2
  go_wp2
  obtain ⟨j0, j1⟩ := obj2s (set2_e H8.out.2.2 (.string ⟨dn.toArray⟩) (.slice xa xn xc))
  refine bodyPost_ret (v := .tuple #[.agg #[.string ⟨dn.toArray⟩, .slice xa xn xc], .int .i64 0]) (by simp [results, Tryz.results38, go_sem, *]) rfl ?_
  exact mdPost_ok HP.out (paAt_set2 H8.out.1 H8.out.2.2 (by decide) (by decide) _ _) (below_e2 H8.out.2.1 (by omega) _ _)
 | del h ho h0 hg e =>
  subst ho
  have HP := Hy e
  obtain ⟨ka, kc, rfl, hkt⟩ := HGood.out h
  have hm0 := HK.out.2.1 h0
  have hmi : ((m : Int) == 0) = true := by simp [hm0]
  have hmi2 : (m : Int) = 0 := by omega
  have hgi := HK.out.2.2.1 (by rw [<- HGL.out]; exact hg)
  have hgl := HK.out.2.2.2.2
  clear h hkt h0 e hm0 hg
  go_wp2_with fail
  with_reducible refine (HGet.out w5 HY.out.2.2.2.2).mono ?_
  rintro en w6 ⟨gv, rfl, hgo, hb6⟩
  obtain ⟨gga, ggc, rfl⟩ := ownsRow_slice hgo
  obtain ⟨gl, hgln⟩ : ∃ k, GL.length = k := ⟨_, rfl⟩
  rw [hgln] at hgi hgl ⊢
  have hgb : ((gl : Int) == 0) = false := by simpa using hgi
  have y0 := obj_below HY.out.1 hb6 (obj_lt HY.out.1)
  have y1 := obj_below HY.out.2.1 hb6 (obj_lt HY.out.2.1)
  have y2 := obj_below HY.out.2.2.1 hb6 (obj_lt HY.out.2.2.1)
  have y3 := obj_below HY.out.2.2.2.1 hb6 (obj_lt HY.out.2.2.2.1)
  have HZ := Hy (An y0 (An y1 (An y2 (An y3 (HY.out.2.2.2.2.trans (hb6.mono HY.out.2.2.2.2.size))))))
  obtain ⟨tt0, tt1, tt2⟩ := obj3 y0
  obtain ⟨e0, e1⟩ := obj2s y1
  have v0 := obj_free y1 0
  have v1 := obj_free y1 1
  obtain ⟨q0, q1⟩ := obj2s y3
  have u0 := obj_free y3 0
  have u1 := obj_free y3 1
  clear hgo hgln y0 y1 y2 y3 hb6
  go_wp2_with fail
  with_reducible refine (HWo.out w6 HZ.out.2.2.2.2).mono ?_
  rintro en w7 ⟨v, Lq, rfl, hok, hr, hb7⟩
  have hpa : PaAt w7 v (woL L n) := ⟨Lq, _, hok, hr⟩
  obtain ⟨xa, xc, rfl⟩ := ownsRow_slice hr
  obtain ⟨xn, hxn⟩ : ∃ k, (woL L n).length = k := ⟨_, rfl⟩
  rw [hxn] at hpa ⊢
  have z0 := obj_lt HZ.out.1
  have z1 := obj_lt HZ.out.2.1
  have z3 := obj_lt HZ.out.2.2.2.1
  have y0 := obj_below HZ.out.1 hb7 z0
  have y1 := obj_below HZ.out.2.1 hb7 z1
  have y3 := obj_below HZ.out.2.2.2.1 hb7 z3
  obtain ⟨W8, hW8⟩ : ∃ W, (w7.setCell ⟨w.heap.size + 1, 0, none⟩ (.string ⟨dn.toArray⟩)).setCell ⟨w.heap.size + 1, 1, none⟩ (.slice xa xn xc) = W := ⟨_, rfl⟩
  have y0' := obj_set2o y0 (show w.heap.size ≠ w.heap.size + 1 by omega) (.string ⟨dn.toArray⟩) (.slice xa xn xc)
  have y1' := set2_e y1 (.string ⟨dn.toArray⟩) (.slice xa xn xc)
  have y3' := obj_set2o y3 (show w.heap.size + 1 + 1 + 1 ≠ w.heap.size + 1 by omega) (.string ⟨dn.toArray⟩) (.slice xa xn xc)
  have hpa8 := paAt_set2 hpa y1 (by decide) (by decide) (.string ⟨dn.toArray⟩) (.slice xa xn xc)
  have hbw8 := below_e2 (HZ.out.2.2.2.2.trans (hb7.mono HZ.out.2.2.2.2.size)) (show w.heap.size <= w.heap.size + 1 by omega) (.string ⟨dn.toArray⟩) (.slice xa xn xc)
  obtain ⟨c0, c1⟩ := obj2s y1'
  obtain ⟨q0, q1⟩ := obj2s y3'
  have u0 := obj_free y3' 0
  have u1 := obj_free y3' 1
  obtain ⟨e0, e1⟩ := obj2s y1
  have v0 := obj_free y1 0
  have v1 := obj_free y1 1
  have H8 := Hy (An hpa8 (An hbw8 y3'))
  clear hpa hok hr hb7 y0 y1 y3 hpa8 hbw8 y0' y1' y3' hW8 hxn tt0 tt1 tt2 mm0 mm1 mm2
  go_wp2
  obtain ⟨j0, j1⟩ := obj2s (set2_e H8.out.2.2 (.string ⟨dn.toArray⟩) (.slice xa xn xc))
  refine bodyPost_ret (v := .tuple #[.agg #[.string ⟨dn.toArray⟩, .slice xa xn xc], .int .i64 0]) (by simp [results, Tryz.results38, go_sem, *]) rfl ?_
  exact mdPost_ok HP.out (paAt_set2 H8.out.1 H8.out.2.2 (by decide) (by decide) _ _) (below_e2 H8.out.2.1 (by omega) _ _)
 | non h ho h0 hg e =>
  subst ho
  have HP := Hy e
  obtain ⟨ka, kc, rfl, hkt⟩ := HGood.out h
  have hm0 := HK.out.2.1 h0
  have hmi2 : (m : Int) = 0 := by omega
  have hgi := HK.out.2.2.2.1 (by rw [<- HGL.out]; exact hg)
  clear h hkt h0 e hm0 hg
  go_wp2_with fail
  with_reducible refine (HGet.out w5 HY.out.2.2.2.2).mono ?_
  rintro en w6 ⟨gv, rfl, hgo, hb6⟩
  obtain ⟨gga, ggc, rfl⟩ := ownsRow_slice hgo
  rw [hgi] at hgo ⊢
  have y3 := obj_below HY.out.2.2.2.1 hb6 (obj_lt HY.out.2.2.2.1)
  obtain ⟨q0, q1⟩ := obj2s y3
  have u0 := obj_free y3 0
  have u1 := obj_free y3 1
  have HZ := Hy (An y3 (HY.out.2.2.2.2.trans (hb6.mono HY.out.2.2.2.2.size)))
  clear hgo y3 hb6 hgi tt0 tt1 tt2 e0 e1 v0 v1 mm0 mm1 mm2
  go_wp2
  obtain ⟨j0, j1⟩ := obj2s (set2_e HZ.out.1 (.string ⟨#[]⟩) (.slice none 0 0))
  refine bodyPost_ret (v := .tuple #[.agg #[.string ⟨#[]⟩, .slice none 0 0], .int .i64 16]) (by simp [results, Tryz.results38, go_sem, *]) rfl ?_
  first | exact mdPost_bad HP.out (by decide) HZ.out.2 | exact mdPost_bad HP.out (by decide) (below_e2 HZ.out.2 (by omega) _ _)
 | rep h ho h0 e =>
  subst ho
  subst e
  obtain ⟨ka, kc, rfl, hkt⟩ := HGood.out h
  have hmi2 := HK.out.1 h0
  have hmi : ((m : Int) == 0) = false := by simpa using hmi2
  have HOk := Hy h
  have HKt := Hy hkt
  clear h hkt h0
  go_wp2_with fail
  with_reducible refine (HWo.out w5 HY.out.2.2.2.2).mono ?_
  rintro en w7 ⟨v, Lq, rfl, hok, hr, hb7⟩
  have hpa : PaAt w7 v (woL L n) := ⟨Lq, _, hok, hr⟩
  obtain ⟨xa, xc, rfl⟩ := ownsRow_slice hr
  obtain ⟨xn, hxn⟩ : ∃ k, (woL L n).length = k := ⟨_, rfl⟩
  rw [hxn] at hpa ⊢
  have z0 := obj_lt HY.out.1
  have z1 := obj_lt HY.out.2.1
  have z3 := obj_lt HY.out.2.2.2.1
  have y0 := obj_below HY.out.1 hb7 z0
  have y1 := obj_below HY.out.2.1 hb7 z1
  have y3 := obj_below HY.out.2.2.2.1 hb7 z3
  obtain ⟨W8, hW8⟩ : ∃ W, (w7.setCell ⟨w.heap.size + 1, 0, none⟩ (.string ⟨dn.toArray⟩)).setCell ⟨w.heap.size + 1, 1, none⟩ (.slice xa xn xc) = W := ⟨_, rfl⟩
  have y0' := obj_set2o y0 (show w.heap.size ≠ w.heap.size + 1 by omega) (.string ⟨dn.toArray⟩) (.slice xa xn xc)
  have y1' := set2_e y1 (.string ⟨dn.toArray⟩) (.slice xa xn xc)
  have y3' := obj_set2o y3 (show w.heap.size + 1 + 1 + 1 ≠ w.heap.size + 1 by omega) (.string ⟨dn.toArray⟩) (.slice xa xn xc)
  have hpa8 := paAt_set2 hpa y1 (by decide) (by decide) (.string ⟨dn.toArray⟩) (.slice xa xn xc)
  have hbw8 := below_e2 (HY.out.2.2.2.2.trans (hb7.mono HY.out.2.2.2.2.size)) (show w.heap.size <= w.heap.size + 1 by omega) (.string ⟨dn.toArray⟩) (.slice xa xn xc)
  have hkt8 := own_set2 (ownsRow_below HKt.out hb7) y1 (show 9 ≠ 24 by decide) (.string ⟨dn.toArray⟩) (.slice xa xn xc)
  rw [hW8] at y0' y1' y3' hpa8 hbw8 hkt8
  have HA := Hy (HAdw.out W8 (.slice xa xn xc) ka kc hbw8 HOk.out (paAt_ea hpa8) (by have h9 := txR_owns (l := vs.map (kyN r)) (by rw [HK2.out]; exact hkt8); first | exact h9 | (rw [HK2.out] at h9; exact h9)))
  obtain ⟨c0, c1⟩ := obj2s y1'
  obtain ⟨c2, c3, c4⟩ := obj3 y0'
  rw [<- hW8] at c0 c1 c2 c3 c4
  obtain ⟨e0, e1⟩ := obj2s y1
  have v0 := obj_free y1 0
  have v1 := obj_free y1 1
  have HW8 := Hy hW8
  have H8 := Hy (An hbw8 y3')
  clear hpa hok hr hb7 y0 y1 y3 hpa8 hbw8 y0' y1' y3' hW8 hxn tt0 tt1 tt2 mm0 mm1 mm2 q0 q1 u0 u1 hkt8
  go_wp2_with fail
  rw [HW8.out]
  with_reducible refine HA.out.mono ?_
  rintro en w9 ⟨d, ra, rn, rc, rfl, hpa, hb9⟩
  have y9 := obj_below H8.out.2 hb9 (obj_lt H8.out.2)
  obtain ⟨q0, q1⟩ := obj2s y9
  have u0 := obj_free y9 0
  have u1 := obj_free y9 1
  have H9 := Hy (An hpa (An (H8.out.1.trans (hb9.mono H8.out.1.size)) y9))
  clear hpa hb9 y9 c0 c1 c2 c3 c4 e0 e1 v0 v1
  obtain ⟨pc, hpc⟩ : ∃ x, (mdAdd r (woL L n) n vs).2 = x := ⟨_, rfl⟩
  rw [hpc]
  have HPc := Hy hpc
  clear hpc
  go_wp2
  obtain ⟨j0, j1⟩ := obj2s (set2_e H9.out.2.2 (.string ⟨d⟩) (.slice ra rn rc))
  refine bodyPost_ret (v := .tuple #[.agg #[.string ⟨d⟩, .slice ra rn rc], .int .i64 pc]) (by simp [results, Tryz.results38, go_sem, *]) rfl ?_
  exact ⟨d, ra, rn, rc, by rw [HPc.out], fun hz => ⟨(H9.out.1 hz).1, paAt_set2 (H9.out.1 hz).2 H9.out.2.2 (by decide) (by decide) _ _⟩, below_e2 H9.out.2.1 (by omega) _ _⟩
end Go.Proofs.YtpkbgkoocijegaaGreatDoor
