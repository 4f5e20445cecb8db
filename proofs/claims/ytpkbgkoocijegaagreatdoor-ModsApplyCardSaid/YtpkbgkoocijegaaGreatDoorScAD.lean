/- The document's in, lower, names and twice, for all texts. Types and classes in memory; the document's type of a name. The document's class of a name. Whether types and classes may be: the document's check. -/
import Derived.Test.YtpkbgkoocijegaaGreatDoorPlnA
import Derived.Test.YtpkbgkoocijegaaGreatDoorGenA
import Derived.Test.YtpkbgkoocijegaaGreatDoorDqC
import Derived.Test.YtpkbgkoocijegaaGreatDoorDqA
import Derived.Test.YtpkbgkoocijegaaGreatDoorGenB
import Derived.WideShapes
set_option linter.unusedVariables false
set_option linter.unusedSimpArgs false
set_option maxHeartbeats 25600000
set_option maxRecDepth 100000
namespace Go.Proofs.YtpkbgkoocijegaaGreatDoor
open Go Go.RowKit Go.Proofs.BerK Go.Proofs.MemK Go.Proofs.UtfK
theorem Tryz.scinfo9 : (Tryz.prog.info? 9).map (fun i => (i.zero, i.size, i.bytes)) = some (some (.string ByteArray.empty), 1, 16) := by kernel_rfl
def TyAt (w : World) (v : Value) (T : List Ty) : Prop :=
 ∃ a c, v = .slice a T.length c /\ ∀ i (hi : i < T.length), ∃ g o, a = some ⟨g, o, none⟩ /\ g < w.heap.size /\ w.cell? ⟨g, o + i * 3, none⟩ = some (.string ⟨T[i].1.toArray⟩) /\ w.cell? ⟨g, o + i * 3 + 1, none⟩ = some (.int .i64 T[i].2.1) /\ w.cell? ⟨g, o + i * 3 + 2, none⟩ = some (.bool T[i].2.2)
theorem tyAt_below {w w' : World} {v : Value} {T : List Ty} (h : TyAt w v T) (hb : Below w.heap.size w w') : TyAt w' v T := by
 obtain ⟨a, c, rfl, h⟩ := h
 refine ⟨a, c, rfl, fun i hi => ?_⟩
 obtain ⟨g, o, h1, h2, h3, h4, h5⟩ := h i hi
 exact ⟨g, o, h1, Nat.lt_of_lt_of_le h2 hb.size, (hb.cell (p := ⟨g, _, none⟩) h2).trans h3, (hb.cell (p := ⟨g, _, none⟩) h2).trans h4, (hb.cell (p := ⟨g, _, none⟩) h2).trans h5⟩
def SlOk (v : Value) : Prop := v = .slice none 0 0 \/ ∃ ad n c, v = .slice (some ad) n c
theorem rd_txR {w : World} {v : Value} {l : List (List UInt8)} (h : TxR w v l) (hk : SlOk v) : RdRow w 1 v l.length (sc l) := by
 obtain ⟨a, c, rfl, h⟩ := h
 refine ⟨by simp [sc], ?_⟩
 rcases hk with hk | ⟨ad, n, c', hk⟩
 ·injection hk with h1 h2 h3
  exact .inl ⟨by rw [h1, h2, h3], h2⟩
 ·injection hk with h1 h2 h3
  subst h1
  refine .inr ⟨ad, c, rfl, fun j u hj => ?_⟩
  have hjl : j < l.length := by
   have := (List.getElem?_eq_some_iff.1 hj).1
   simpa [sc] using this
  obtain ⟨g, o, e, _, h3⟩ := h j hjl
  injection e with e
  subst e
  rw [WideShapes.add_plain, h3, <- hj]
  simp [sc, hjl]
def ClAt (w : World) (v : Value) (C : List Cl) : Prop :=
 ∃ a c, v = .slice a C.length c /\ ∀ i (hi : i < C.length), ∃ g o mu ma, a = some ⟨g, o, none⟩ /\ g < w.heap.size /\ w.cell? ⟨g, o + i * 3, none⟩ = some (.string ⟨C[i].1.toArray⟩) /\ w.cell? ⟨g, o + i * 3 + 1, none⟩ = some mu /\ w.cell? ⟨g, o + i * 3 + 2, none⟩ = some ma /\ TxR w mu C[i].2.1 /\ TxR w ma C[i].2.2 /\ SlOk mu /\ SlOk ma
theorem clAt_below {w w' : World} {v : Value} {C : List Cl} (h : ClAt w v C) (hb : Below w.heap.size w w') : ClAt w' v C := by
 obtain ⟨a, c, rfl, h⟩ := h
 refine ⟨a, c, rfl, fun i hi => ?_⟩
 obtain ⟨g, o, mu, ma, h1, h2, h3, h4, h5, h6, h7, h8⟩ := h i hi
 exact ⟨g, o, mu, ma, h1, Nat.lt_of_lt_of_le h2 hb.size, (hb.cell (p := ⟨g, _, none⟩) h2).trans h3, (hb.cell (p := ⟨g, _, none⟩) h2).trans h4, (hb.cell (p := ⟨g, _, none⟩) h2).trans h5, txR_below h6 hb, txR_below h7 hb, h8⟩
theorem obj2s {w : World} {g : Nat} {a b : Value} {t : TypeId} (h : w.heap[g]? = some (.cells #[a, b] t (0, 0))) : w.cell? ⟨g, 0, none⟩ = some a /\ w.cell? ⟨g, 1, none⟩ = some b :=
 ⟨obj_cell h 0 a rfl, obj_cell h 1 b rfl⟩
theorem box3s {w w1 : World} {a b c : Value} {t : TypeId} (hb : Below (w.alloc (.cells #[a, b, c] t)).heap.size (w.alloc (.cells #[a, b, c] t)) w1) : w1.heap[w.heap.size]? = some (.cells #[a, b, c] t (0, 0)) /\ Below w.heap.size w w1 :=
 ⟨obj_below (heap_alloc_new w _) hb (by simp), ((Below.refl _ w).alloc (Nat.le_refl _) _).trans (hb.mono (by simp))⟩
def TyV (o : Option Ty) : Value := match o with
 | none => .tuple #[.agg #[.string ⟨#[]⟩, .int .i64 0, .bool false], .bool false]
 | some t => .tuple #[.agg #[.string ⟨t.1.toArray⟩, .int .i64 t.2.1, .bool t.2.2], .bool true]
def TyPost (o : Option Ty) (w : World) (en : Ending) (w' : World) : Prop := en = .returned (TyV o) /\ Below w.heap.size w w'
theorem rtype9_any (T : List Ty) (tv cv : Value) (s : List UInt8) (w : World) (h : TyAt w tv T) (hln : T.length <= 1000000) (hb : ∀ t ∈ T, t.1.length <= 140737488355328) (hs : s.length <= 140737488355328) :
  Calls Tryz.prog 43 #[.agg #[tv, cv], .string ⟨s.toArray⟩] w (TyPost (scT T s) w) := by
 obtain ⟨a, c, rfl, hcells⟩ := h
 have HM := Hy hcells
 have HBd := Hy hb
 have HY := Hy (scT_at (T := T) (s := s))
 have HN := Hy (scT_no (T := T) (s := s))
 have HLs := Hy (fun w => show Calls Tryz.prog 81 #[.string ⟨s.toArray⟩] w (StrPost (lowL s) w) from rlow5_any ⟨s.toArray⟩ hs w)
 obtain ⟨LS, hLS⟩ : ∃ x, lowL s = x := ⟨_, rfl⟩
 rw [hLS] at HLs HY HN
 obtain ⟨R, hR⟩ : ∃ R, scT T s = R := ⟨_, rfl⟩
 rw [hR] at HY HN ⊢
 obtain ⟨n, hn⟩ : ∃ n, T.length = n := ⟨_, rfl⟩
 have HL := Hy hn
 rw [hn] at hln ⊢
 have hb0 : Below w.heap.size w ((w.alloc (.cells #[.slice a n c, cv] 34)).alloc (.cells #[.string ⟨#[]⟩, .int .i64 0, .bool false] 79)) := ((Below.refl _ w).alloc (Nat.le_refl _) _).alloc (by simp) _
 have hx0 : ((w.alloc (.cells #[.slice a n c, cv] 34)).alloc (.cells #[.string ⟨#[]⟩, .int .i64 0, .bool false] 79)).heap[w.heap.size]? = some (.cells #[.slice a n c, cv] 34 (0, 0)) := obj_alloc (heap_alloc_new w _) _
 have hx1 : ((w.alloc (.cells #[.slice a n c, cv] 34)).alloc (.cells #[.string ⟨#[]⟩, .int .i64 0, .bool false] 79)).heap[w.heap.size + 1]? = some (.cells #[.string ⟨#[]⟩, .int .i64 0, .bool false] 79 (0, 0)) := by
  have := heap_alloc_new (w.alloc (.cells #[.slice a n c, cv] 34)) (.cells #[.string ⟨#[]⟩, .int .i64 0, .bool false] 79)
  rw [World.size_alloc] at this
  exact this
 have hsz : ((w.alloc (.cells #[.slice a n c, cv] 34)).alloc (.cells #[.string ⟨#[]⟩, .int .i64 0, .bool false] 79)).heap.size = w.heap.size + 2 := by simp
 obtain ⟨W1, hW1⟩ : ∃ W1, (w.alloc (.cells #[.slice a n c, cv] 34)).alloc (.cells #[.string ⟨#[]⟩, .int .i64 0, .bool false] 79) = W1 := ⟨_, rfl⟩
 have HW1 := Hy hW1
 rw [hW1] at hb0 hx0 hx1 hsz
 have HX := Hy (An hx0 (An hx1 (An hb0 hsz)))
 clear hcells hR hn hb hs hLS hW1 hb0 hx0 hx1 hsz
 go_enter Tryz.func43, Tryz.ntmps43
 go_wp2
 rw [HW1.out]
 go_loopw [6] (fun v wr => ∃ i : Nat, i <= n /\ v = .int .i64 (i : Nat) /\ Below (w.heap.size + 2) W1 wr /\ ∀ j (hj : j < T.length), j < i -> (lowL T[j].1 == LS) = false) (fun v _ => n - (intOf v).toNat)
 case atStart => exact ⟨0, by omega, rfl, Below.refl _ _, fun j _ h => by omega⟩
 case round =>
  obtain ⟨i, hi, rfl, hb, hall⟩ := hrel
  have hsr := hb.size
  have hs1 := HX.out.2.2.2
  have x0 := obj_below HX.out.1 hb (by omega)
  have x1 := obj_below HX.out.2.1 hb (by omega)
  obtain ⟨b0, b1⟩ := obj2s x0
  by_cases hlt : i < n
  ·have hil : (i : Int) < (n : Int) := by omega
   have him : i < T.length := by rw [HL.out]; exact hlt
   obtain ⟨g, o, rfl, hg, e0w, e1w, e2w⟩ := HM.out i him
   have hbw := HX.out.2.2.1.trans (hb.mono (by omega))
   have e0 := (hbw.cell (p := ⟨g, _, none⟩) hg).trans e0w
   have e1 := (hbw.cell (p := ⟨g, _, none⟩) hg).trans e1w
   have e2 := (hbw.cell (p := ⟨g, _, none⟩) hg).trans e2w
   have zg := Nat.lt_of_lt_of_le hg hbw.size
   have hbd := HBd.out _ (List.getElem_mem him)
   have HYi := Hy (fun h => HY.out i him hall h)
   have HAi := Hy (fun (hx : (lowL T[i].1 == LS) = false) j (hj : j < T.length) (hji : j < i + 1) => (show (lowL T[j].1 == LS) = false by
    by_cases hjk : j = i
    ·subst hjk; exact hx
    ·exact hall j hj (by omega)))
   obtain ⟨nm, hnm⟩ : ∃ x, T[i].1 = x := ⟨_, rfl⟩
   obtain ⟨rl, hrl⟩ : ∃ x, T[i].2.1 = x := ⟨_, rfl⟩
   obtain ⟨sg, hsg⟩ : ∃ x, T[i].2.2 = x := ⟨_, rfl⟩
   rw [hnm] at e0 hbd
   rw [hrl] at e1
   rw [hsg] at e2
   have HLn := Hy (fun w => show Calls Tryz.prog 81 #[.string ⟨nm.toArray⟩] w (StrPost (lowL nm) w) from rlow5_any ⟨nm.toArray⟩ hbd w)
   obtain ⟨LX, hLX⟩ : ∃ x, lowL nm = x := ⟨_, rfl⟩
   have HE := Hy (show lowL T[i].1 = LX /\ T[i].2 = (rl, sg) from ⟨by rw [hnm, hLX], by rw [<- hrl, <- hsg]⟩)
   rw [hLX] at HLn
   have HB := Hy (An hb (An x0 x1))
   clear hb hall x0 x1 e0w e1w e2w hnm hrl hsg hLX hbd hbw
   go_wp2_with fail
   refine (HLn.out _).mono ?_
   rintro en w5 ⟨rfl, hb5⟩
   have hB5 := HB.out.1.trans (hb5.mono (by omega))
   have h0 := (hb5.cell (p := ⟨g, _, none⟩) zg).trans e0
   have h1 := (hb5.cell (p := ⟨g, _, none⟩) zg).trans e1
   have h2 := (hb5.cell (p := ⟨g, _, none⟩) zg).trans e2
   have y0 := obj_below HB.out.2.1 hb5 (by omega)
   have y1 := obj_below HB.out.2.2 hb5 (by omega)
   have zg5 := Nat.lt_of_lt_of_le zg hb5.size
   have hs5 := hb5.size
   clear b0 b1 e0 e1 e2 hb5
   have HB5 := Hy (An hB5 (An y0 y1))
   clear hB5 y0 y1
   go_wp2_with fail
   refine (HLs.out _).mono ?_
   rintro en w6 ⟨rfl, hb6⟩
   have e0 := (hb6.cell (p := ⟨g, _, none⟩) zg5).trans h0
   have e1 := (hb6.cell (p := ⟨g, _, none⟩) zg5).trans h1
   have e2 := (hb6.cell (p := ⟨g, _, none⟩) zg5).trans h2
   have y0 := obj_below HB5.out.2.1 hb6 (by omega)
   have y1 := obj_below HB5.out.2.2 hb6 (by omega)
   have hs6 := hb6.size
   have HB6 := Hy (An (HB5.out.1.trans (hb6.mono (by omega))) (An y0 y1))
   obtain ⟨b0, b1⟩ := obj2s y0
   clear h0 h1 h2 hb6 y0 y1
   cases hq : (LX == LS)
   ·have HI := Hy (HAi.out (by rw [HE.out.1]; exact hq))
    clear e0 e1 e2 b0 b1
    go_wp2
    exact ⟨⟨i + 1, by omega, by go_num, HB6.out.1, HI.out⟩, by simp [intOf]; omega⟩
   ·have HR := Hy (show R = some (LX, rl, sg) by rw [HYi.out (by rw [HE.out.1]; exact hq), HE.out.1, HE.out.2])
    go_wp2_with fail
    clear e0 e1 e2
    refine (HLn.out _).mono ?_
    rintro en w8 ⟨rfl, hb8⟩
    obtain ⟨y7, hb68⟩ := box3s hb8
    have y1 := obj_below HB6.out.2.2 hb68 (by omega)
    obtain ⟨c0, c1, c2⟩ := obj3 y7
    have k0 := obj_free y7 0
    have r0 := (obj3 y1).1
    have r1 := (obj3 y1).2.1
    have r2 := (obj3 y1).2.2
    have f0 := obj_free y1 0
    have f1 := obj_free y1 1
    have f2 := obj_free y1 2
    have hne : w.heap.size + 1 ≠ w6.heap.size := by omega
    have y1s := obj_set_other (p := ⟨w6.heap.size, 0, none⟩) y1 hne (.string ⟨LX.toArray⟩)
    have HB8 := Hy (An (HX.out.2.2.1.trans ((HB6.out.1.trans (hb68.mono (by omega))).mono (by omega))) y1s)
    clear b0 b1 hb8 hb68 y7 y1 y1s
    go_wp2
    obtain ⟨j0, j1, j2⟩ := obj3 (obj_set3 HB8.out.2 (.string ⟨LX.toArray⟩) (.int .i64 rl) (.bool sg))
    refine bodyPost_ret (v := TyV (some (LX, rl, sg))) (by simp [results, Tryz.results43, go_sem, TyV, *]) rfl ?_
    exact ⟨by rw [HR.out], below_set3 (HB8.out.1.setCell (p := ⟨w6.heap.size, 0, none⟩) (by show w.heap.size <= w6.heap.size; omega) _) (by omega) _ _ _⟩
  ·obtain rfl : i = n := by omega
   have HR := Hy (HN.out (fun j hj => hall j hj (by rw [<- HL.out]; exact hj)))
   have r0 := (obj3 x1).1
   have r1 := (obj3 x1).2.1
   have r2 := (obj3 x1).2.2
   have f0 := obj_free x1 0
   have f1 := obj_free x1 1
   have f2 := obj_free x1 2
   have HB := Hy (An (HX.out.2.2.1.trans (hb.mono (by omega))) x1)
   clear hb hall x0 x1
   go_wp2
   obtain ⟨j0, j1, j2⟩ := obj3 (obj_set3 HB.out.2 (.string ⟨#[]⟩) (.int .i64 0) (.bool false))
   refine bodyPost_ret (v := TyV none) (by simp [results, Tryz.results43, go_sem, TyV, *]) rfl ?_
   exact ⟨by rw [HR.out], below_set3 HB.out.1 (by omega) _ _ _⟩
end Go.Proofs.YtpkbgkoocijegaaGreatDoor
