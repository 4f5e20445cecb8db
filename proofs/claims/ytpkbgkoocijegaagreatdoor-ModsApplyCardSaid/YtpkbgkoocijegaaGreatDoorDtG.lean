/- The document's Get, with what it tells; its Has. -/
import Derived.Test.YtpkbgkoocijegaaGreatDoorEnHO
import Derived.Test.YtpkbgkoocijegaaGreatDoorRuK
import Derived.Test.YtpkbgkoocijegaaGreatDoorEnCE
set_option linter.unusedVariables false
set_option linter.unusedSimpArgs false
set_option maxHeartbeats 25600000
set_option maxRecDepth 100000
namespace Go.Proofs.YtpkbgkoocijegaaGreatDoor
open Go Go.RowKit Go.Proofs.BerK Go.Proofs.MemK Go.Proofs.UtfK
def GvPost (l : List (List UInt8)) (w : World) (en : Ending) (w' : World) : Prop := (∃ a c, en = .returned (.slice a l.length c) /\ TxR w' (.slice a l.length c) l) /\ Below w.heap.size w w'
theorem gv_at {A : List Atr} {s : List UInt8} {k : Nat} (hk : k < (clA A).length) (h : (clA A)[k].1 = lowL s) : geL A s = (clA A)[k].2 := by
 have hm := (cl_is A).2 (clA A)[k] |>.1 (List.getElem_mem hk)
 unfold geL
 rw [<- h]
 exact hm.1.symm
theorem gv_no {A : List Atr} {s : List UInt8} (h : ∀ j (hj : j < (clA A).length), (clA A)[j].1 ≠ lowL s) : geL A s = [] := by
 by_cases e : geL A s = []
 ·exact e
 ·exfalso
  have hm : (lowL s, geL A s) ∈ clA A := (cl_is A).2 _ |>.2 ⟨rfl, e⟩
  obtain ⟨j, hj, hj2⟩ := List.getElem_of_mem hm
  exact h j hj (by rw [hj2])
theorem rgetv_any (A : List Atr) (dn s : List UInt8) (av : Value) (w : World) (h : AtAt w av A) (hf : FewG 300 300 A) (hs : s.length <= 1000000) : Calls Tryz.prog 91 #[.agg #[.string ⟨dn.toArray⟩, av], .string ⟨s.toArray⟩] w (GvPost (geL A s) w) := by
 obtain ⟨a, c, rfl, _⟩ := id h
 obtain ⟨W, hW⟩ : ∃ W, w.alloc (.cells #[.string ⟨dn.toArray⟩, .slice a A.length c] 24) = W := ⟨_, rfl⟩
 have hb0 : Below w.heap.size w W := by rw [<- hW]; exact (Below.refl _ w).alloc (Nat.le_refl _) _
 have hg : W.heap[w.heap.size]? = some (.cells #[.string ⟨dn.toArray⟩, .slice a A.length c] 24 (0, 0)) := by rw [<- hW]; exact heap_alloc_new w _
 obtain ⟨d0, d1⟩ := obj2s hg
 have HC := Hy (rclean10_any dn A _ W (atAt_below h hb0) hf)
 have HCf := Hy (fewG_cl hf)
 have HLo := Hy (fun w' => show Calls Tryz.prog 81 #[.string ⟨s.toArray⟩] w' (StrPost (lowL s) w') from rlow5_any ⟨s.toArray⟩ (by show s.length <= _; omega) w')
 have HG := Hy (An (fun k hk h => gv_at (A := A) (s := s) (k := k) hk h) (gv_no (A := A) (s := s)))
 obtain ⟨GL, hgn⟩ : ∃ l, geL A s = l := ⟨_, rfl⟩
 have HGn := Hy hgn
 rw [hgn]
 obtain ⟨n, hn⟩ : ∃ n, A.length = n := ⟨_, rfl⟩
 rw [hn] at HC hW d1 ⊢
 obtain ⟨R, hR⟩ : ∃ R, clA A = R := ⟨_, rfl⟩
 rw [hR] at HC HCf HG
 have HB0 := Hy hb0
 have hfi : ∀ (w : World) (a : Option Addr) (n c : Nat), (Instr.field 24 (.agg #[.string ⟨dn.toArray⟩, .slice a n c]) 1).run Tryz.prog w = .ok (.slice a n c) w := fun w a n c => by kernel_rfl
 clear h hf hb0 hg hn hR hgn
 go_enter Tryz.func91, Tryz.ntmps91
 go_wp2_with fail
 refine HC.out.mono ?_
 rintro e w4 ⟨v, rfl, hpa, hb4⟩
 obtain ⟨ra, rc, rfl⟩ := paAt_slice hpa
 obtain ⟨rl, hrl⟩ : ∃ x, R.length = x := ⟨_, rfl⟩
 have HRl := Hy hrl
 have hrlb : rl <= 100000 := by have := HCf.out.1; omega
 have HP := Hy (An hpa (HB0.out.trans (hb4.mono HB0.out.size)))
 rw [hrl]
 clear hpa hb4 hrl d0 d1 hW
 go_wp2
 go_loopw [6] (fun v wr => ∃ k : Nat, k <= rl /\ v = .int .i64 (k : Nat) /\ Below w4.heap.size w4 wr /\ ∀ j (hj : j < R.length), j < k -> R[j].1 ≠ lowL s) (fun v _ => rl - (intOf v).toNat)
 case atStart => exact ⟨0, by omega, rfl, Below.refl _ _, fun j _ h => by omega⟩
 case round =>
  obtain ⟨k, hk, rfl, hb, hall⟩ := hrel
  by_cases hlt : k < rl
  ·have hkl : (k : Int) < (rl : Int) := by omega
   have hkR : k < R.length := by rw [HRl.out]; exact hlt
   obtain ⟨Lq, B, hqk, hqr⟩ := HP.out.1
   obtain ⟨rg, rc', eo, hrB, hrg⟩ := own_block hqr (by omega)
   injection eo with eo1 eo2 eo3
   subst eo1 eo3
   clear eo2
   have hkq : k < Lq.length := by rw [hqk.1]; exact hkR
   obtain ⟨h1, h2⟩ := atcs_at Lq k hkq
   obtain ⟨hn1, BB', hlist⟩ := hqk.2 k hkq hkR
   have t0 := (hb.cell (p := ⟨rg, k * 2, none⟩) hrg).trans ((hqr.cellAt (k * 2) (by omega)).trans h1)
   have t1 := (hb.cell (p := ⟨rg, k * 2 + 1, none⟩) hrg).trans ((hqr.cellAt (k * 2 + 1) (by omega)).trans h2)
   obtain ⟨xa, xc, hxv⟩ := ownsRow_slice hlist
   rw [hxv] at t1
   have hG1 := HG.out.1 k hkR
   obtain ⟨⟨t, T⟩, hrk⟩ : ∃ x, R[k] = x := ⟨_, rfl⟩
   rw [hrk] at hn1 hG1 t1
   dsimp only at hn1 hG1 t1
   rw [hn1] at t0
   have zr : rg < wr.heap.size := by have := hb.size; omega
   have H := Hy (An hb (An hall (An hG1 hrk)))
   obtain ⟨Tn, hTn⟩ : ∃ n, T.length = n := ⟨_, rfl⟩
   have HT := Hy hTn
   have HTx := Hy (show TxR w4 (.slice xa Tn xc) T by rw [hxv] at hlist; rw [hrk] at hlist; rw [<- hTn]; exact txR_owns hlist)
   rw [hTn] at t1
   clear hb hall hqk hqr hrB h1 h2 hn1 hlist hxv hG1 hrk hTn
   by_cases he : t = lowL s
   ·have q1 : (t == lowL s) = true := by simp [he]
    have HN := Hy (show GL = T by rw [<- HGn.out, H.out.2.2.1 he])
    clear he
    go_wp2_with fail
    go_region_held3 (fun w' => w'.cell? ⟨rg, k * 2, none⟩ = some (.string ⟨t.toArray⟩)) (first | exact ⟨ht0⟩ | exact ⟨t0⟩ | go_keep)
     (first | (go_at_call 81; (with_reducible refine (HLo.out _).mono ?_); rintro en wz ⟨rfl, hb5⟩; have hbW : Below wr.heap.size wr wz := (by first | exact hbW.trans (hb5.mono hbW.size) | exact (Below.refl _ wr).drew.trans hb5); have ht0 := (hbW.cell (p := ⟨rg, k * 2, none⟩) zr).trans t0; clear hb5))
    have ht1 := (hbW.cell (p := ⟨rg, k * 2 + 1, none⟩) zr).trans t1
    clear t1 t0
    go_wp2
    go_ret
    refine ⟨⟨xa, xc, by rw [HN.out, HT.out]; rfl, ?_⟩, HP.out.2.trans ((H.out.1.trans (hbW.mono H.out.1.size)).mono HP.out.2.size)⟩
    rw [HN.out, HT.out]
    exact txR_below HTx.out (H.out.1.trans (hbW.mono H.out.1.size))
   ·have q1 : (t == lowL s) = false := by simpa using he
    have HN := Hy (show ∀ j (hj : j < R.length), j < k + 1 -> R[j].1 ≠ lowL s from fun j hj hjk => by
     by_cases e : j = k
     ·subst e; rw [H.out.2.2.2]; exact he
     ·exact H.out.2.1 j hj (by omega))
    clear he
    go_wp2_with fail
    go_region_held3 (fun w' => w'.cell? ⟨rg, k * 2, none⟩ = some (.string ⟨t.toArray⟩)) (first | exact ⟨ht0⟩ | exact ⟨t0⟩ | go_keep)
     (first | (go_at_call 81; (with_reducible refine (HLo.out _).mono ?_); rintro en wz ⟨rfl, hb5⟩; have hbW : Below wr.heap.size wr wz := (by first | exact hbW.trans (hb5.mono hbW.size) | exact (Below.refl _ wr).drew.trans hb5); have ht0 := (hbW.cell (p := ⟨rg, k * 2, none⟩) zr).trans t0; clear hb5))
    clear t1 t0
    go_wp2
    exact ⟨⟨k + 1, by omega, by go_num, H.out.1.trans (hbW.mono H.out.1.size), HN.out⟩, by simp [intOf]; omega⟩
  ·obtain rfl : k = rl := by omega
   have HN := Hy (show GL = [] by rw [<- HGn.out]; exact HG.out.2 (fun j hj => hall j hj (by rw [<- HRl.out]; exact hj)))
   have H := Hy hb
   clear hb hall
   go_wp2
   go_ret
   refine ⟨⟨none, 0, by rw [HN.out]; rfl, ?_⟩, HP.out.2.trans (H.out.mono HP.out.2.size)⟩
   rw [HN.out]
   exact ⟨none, 0, rfl, fun i hi => by simp at hi⟩
theorem geL_len {A : List Atr} (hf : FewG 300 300 A) (s : List UInt8) : (geL A s).length <= 1000000 := by
 have h := fewG_cl hf
 by_cases e : geL A s = []
 ·rw [e]; simp
 ·have hm : (lowL s, geL A s) ∈ clA A := (cl_is A).2 _ |>.2 ⟨rfl, e⟩
  have := (h.2 _ hm).2.1
  dsimp only at this
  omega
theorem rhas10_any (A : List Atr) (dn attr value : List UInt8) (r : Int) (av : Value) (w : World) (h : AtAt w av A) (hf : FewG 300 300 A) (hs : attr.length <= 1000000) :
  Calls Tryz.prog 44 #[.agg #[.string ⟨dn.toArray⟩, av], .string ⟨attr.toArray⟩, .string ⟨value.toArray⟩, .int .i64 r] w (BB ((geL A attr).any (sameQ r value)) w) := by
 obtain ⟨W, hW⟩ : ∃ W, w.alloc (.cells #[.string ⟨dn.toArray⟩, av] 24) = W := ⟨_, rfl⟩
 have hb0 : Below w.heap.size w W := by rw [<- hW]; exact (Below.refl _ w).alloc (Nat.le_refl _) _
 have hg : W.heap[w.heap.size]? = some (.cells #[.string ⟨dn.toArray⟩, av] 24 (0, 0)) := by rw [<- hW]; exact heap_alloc_new w _
 have HC := Hy (rgetv_any A dn attr av W (atAt_below h hb0) hf hs)
 have HE := Hy (fun a b w => rrequal_any r a b w)
 have HS := Hy (show ∀ x, sameQ r value x = (eqP (ruN r x) (ruN r value) == 1) from fun _ => rfl)
 obtain ⟨a, c, rfl, _⟩ := id h
 obtain ⟨d0, d1⟩ := obj2s hg
 have HB0 := Hy hb0
 have hgl := geL_len hf attr
 obtain ⟨R, hR⟩ : ∃ R, geL A attr = R := ⟨_, rfl⟩
 rw [hR] at HC hgl ⊢
 obtain ⟨n, hn⟩ : ∃ n, A.length = n := ⟨_, rfl⟩
 rw [hn] at HC hW d1 ⊢
 have HW := Hy hW
 clear h hf hb0 hg hn hR hW hs
 go_enter Tryz.func44, Tryz.ntmps44
 go_wp2_with fail
 rw [HW.out]
 go_wp2_with fail
 refine HC.out.mono ?_
 rintro e w4 ⟨⟨ra, rc, rfl, htx⟩, hb4⟩
 have HP := Hy (An htx (HB0.out.trans (hb4.mono HB0.out.size)))
 obtain ⟨rl, hrl⟩ : ∃ x, R.length = x := ⟨_, rfl⟩
 have HRl := Hy hrl
 rw [hrl] at hgl ⊢
 clear htx hb4 hrl d0 d1
 go_wp2
 go_loopw [10] (fun v wr => ∃ k : Nat, k <= rl /\ v = .int .i64 (k : Nat) /\ Below w4.heap.size w4 wr /\ (R.take k).any (sameQ r value) = false) (fun v _ => rl - (intOf v).toNat)
 case atStart => exact ⟨0, by omega, rfl, Below.refl _ _, rfl⟩
 case round =>
  obtain ⟨k, hk, rfl, hb, hall⟩ := hrel
  by_cases hlt : k < rl
  ·have hkl : (k : Int) < (rl : Int) := by omega
   have hkR : k < R.length := by rw [HRl.out]; exact hlt
   obtain ⟨a', c', e', hcells⟩ := HP.out.1
   obtain ⟨g, o, e2, hg, c0w⟩ := hcells k hkR
   injection e' with e1 _ e3
   subst e1
   subst e2
   have c0 := (hb.cell (p := ⟨g, o + k, none⟩) hg).trans c0w
   have hany := any_take (sameQ r value) R k hkR
   obtain ⟨x, hx⟩ : ∃ x, R[k] = x := ⟨_, rfl⟩
   rw [hx] at c0 hany
   have HEk := Hy (HE.out x value wr)
   have H := Hy (An hb (An hall (An hany (HS.out x))))
   obtain ⟨q, hq⟩ : ∃ q, eqP (ruN r x) (ruN r value) = q := ⟨_, rfl⟩
   rw [hq] at HEk H
   clear hb hall hcells hany c0w hx e3 hq
   by_cases h1 : q = 1
   ·have ht : (q == 1) = true := by simp [h1]
    have HN := Hy (show R.any (sameQ r value) = true by
     have h2 : (R.take (k + 1)).any (sameQ r value) = true := by rw [H.out.2.2.1, H.out.2.2.2, ht]; simp
     rw [List.any_eq_true] at h2 ⊢
     obtain ⟨y, hy, hy2⟩ := h2
     exact ⟨y, List.mem_of_mem_take hy, hy2⟩)
    clear h1
    go_wp2_with fail
    refine HEk.out.mono ?_
    rintro e w5 ⟨rfl, hb5⟩
    have H5 := Hy hb5
    clear hb5 c0
    go_wp2
    go_ret
    exact bB_mk HN.out (HP.out.2.trans ((H.out.1.trans (H5.out.mono H.out.1.size)).mono HP.out.2.size))
   ·have ht : (q == 1) = false := by simpa using h1
    have HN := Hy (show (R.take (k + 1)).any (sameQ r value) = false by rw [H.out.2.2.1, H.out.2.2.2, ht, H.out.2.1]; rfl)
    clear h1
    go_wp2_with fail
    refine HEk.out.mono ?_
    rintro e w5 ⟨rfl, hb5⟩
    have H5 := Hy hb5
    clear hb5 c0
    go_wp2
    exact ⟨⟨k + 1, by omega, by go_num, H.out.1.trans (H5.out.mono H.out.1.size), HN.out⟩, by simp [intOf]; omega⟩
  ·obtain rfl : k = rl := by omega
   have HN := Hy (show R.any (sameQ r value) = false by rw [<- HRl.out, List.take_length] at hall; exact hall)
   have H := Hy hb
   clear hb hall
   go_wp2
   go_ret
   exact bB_mk HN.out (HP.out.2.trans (H.out.mono HP.out.2.size))
end Go.Proofs.YtpkbgkoocijegaaGreatDoor
