/- A value's text read, the document's way, for every text. -/
import Derived.Test.YtpkbgkoocijegaaGreatDoorDrMA
import Derived.Test.YtpkbgkoocijegaaGreatDoorDqG
import Derived.StillTailTactics
set_option linter.unusedVariables false
set_option linter.unusedSimpArgs false
set_option maxHeartbeats 25600000
set_option maxRecDepth 100000
namespace Go.Proofs.YtpkbgkoocijegaaGreatDoor
open Go Go.RowKit Go.Proofs.BerK Go.Proofs.MemK Go.Proofs.UtfK
theorem lst_e {l : List UInt8} (h : l = []) : l.isEmpty = true := by subst h; rfl
theorem lst_ne {l : List UInt8} (h : l ≠ []) : l.isEmpty = false := by cases l <;> simp_all
theorem rm_at (x : ByteArray) (k : Nat) (h : k < x.size) (hm : mayN x[k].toNat = true) : rmL (x.data.toList.drop k) = some (x[k], 1) := by
 have hl := len_list x
 have hd := drop_at x.data.toList k (by omega)
 rw [at_list x k h] at hd
 rw [hd, rmL_may _ _ hm]
theorem rm_two (x : ByteArray) (k : Nat) (h : k + 1 < x.size) (hm : ¬ mayN (x[k]'(by omega)).toNat = true) : rmL (x.data.toList.drop k) = if hxN (x[k]'(by omega)).toNat < 16 /\ hxN x[k + 1].toNat < 16 then some (UInt8.ofNat (16 * hxN (x[k]'(by omega)).toNat + hxN x[k + 1].toNat), 2) else none := by
 have hl := len_list x
 have hd := drop_at x.data.toList k (by omega)
 have hd2 := drop_at x.data.toList (k + 1) (by omega)
 rw [at_list x k (by omega)] at hd
 rw [at_list x (k + 1) h] at hd2
 rw [hd, hd2, rmL_two _ _ _ hm]
theorem rm_last (x : ByteArray) (k : Nat) (h : k < x.size) (h2 : x.size <= k + 1) (hm : ¬ mayN x[k].toNat = true) : rmL (x.data.toList.drop k) = none := by
 have hl := len_list x
 have hd := drop_at x.data.toList k (by omega)
 rw [at_list x k h] at hd
 rw [hd, List.drop_of_length_le (by omega), rmL_one _ hm]
theorem rm_end (x : ByteArray) (k : Nat) (h : x.size <= k) : rmL (x.data.toList.drop k) = none := by
 have hl := len_list x
 rw [List.drop_of_length_le (by omega)]; rfl
theorem may_ways {c : Nat} (h : mayN c = true) : spN c = true \/ (spN c = false /\ c = 32) \/ (spN c = false /\ c ≠ 32 /\ c = 35) := by
 cases hs : spN c with
 | true => exact .inl rfl
 | false =>
  simp only [mayN, hs, Bool.false_or, Bool.or_eq_true, decide_eq_true_eq] at h
  by_cases h2 : c = 32
  ·exact .inr (.inl ⟨rfl, h2⟩)
  ·exact .inr (.inr ⟨rfl, h2, by omega⟩)
theorem may_not {c : Nat} (h : ¬ mayN c = true) : spN c = false /\ c ≠ 32 /\ c ≠ 35 := by
 simp only [mayN, Bool.or_eq_true, decide_eq_true_eq, not_or] at h
 exact ⟨by simpa using h.1.1, h.1.2, h.2⟩
theorem eq_t {a b : Nat} (h : a = b) : ((a : Int) == (b : Int)) = true := by subst h; simp
theorem eq_f {a b : Nat} (h : a ≠ b) : ((a : Int) == (b : Int)) = false := by rw [beq_eq_false_iff_ne]; omega
theorem ne_t {a b : Nat} (h : a ≠ b) : ((a : Int) != (b : Int)) = true := by rw [bne_iff_ne]; omega
theorem ne_f {a b : Nat} (h : a = b) : ((a : Int) != (b : Int)) = false := by subst h; simp
theorem bare_f {c : Nat} (h : bareN c = false) : ¬ ((c : Int) < 32) /\ c ≠ 127 := by
 simp only [bareN, Bool.or_eq_false_iff, decide_eq_false_iff_not] at h
 omega
theorem bc_byte (m : Nat) (h : m < 256) : bc [UInt8.ofNat m] = [.int .u8 (m : Nat)] := by
 simp [bc, Nat.mod_eq_of_lt h]
theorem rvT_s (L out : List UInt8) (n k m : Nat) (f : Bool) (d : UInt8) (h : rmL (L.drop k) = some (d, m)) : rvT out n f (92 :: L.drop k) = rvT (out ++ [d]) (out.length + 1) false (L.drop (k + m)) := by
 rw [<- List.drop_drop]
 exact rvT_add _ _ _ d _ _ (by rw [rvG_slash, h])
theorem rvT_sn (L out : List UInt8) (n k : Nat) (f : Bool) (h : rmL (L.drop k) = none) : rvT out n f (92 :: L.drop k) = none := rvT_none _ _ _ _ (by rw [rvG_slash, h])
theorem rvalue_any (s : ByteArray) (hs : s.size <= 140737488355328) (w : World) :
  Calls Tryz.prog 145 #[.string s] w (RvPost (rvL s.data.toList) w) := by
 obtain ⟨R, hR⟩ : ∃ R, rvL s.data.toList = R := ⟨_, rfl⟩
 have HSp := Hy rspec_any
 have HHx := Hy rhex_any
 rw [hR]
 unfold rvL at hR
 go_enter Tryz.func145, Tryz.ntmps145
 go_wp2
 go_loop [0] (fun v => ∃ x : ByteArray, v = .string x /\ x.size <= 140737488355328 /\ rvG true (tlB x.data.toList) = R) (fun v => strSz v)
 case atStart => exact ⟨s, rfl, hs, hR⟩
 case round =>
  obtain ⟨x, rfl, hxs, hx⟩ := hrel
  clear hR
  by_cases h : 0 < x.size /\ x.data.toList.head? = some 32
  ·obtain ⟨hp, h32⟩ := h
   have hcut := list_cut x hp
   have h0 : x[0] = 32 := by rw [hcut] at h32; simpa using h32
   rw [hcut, tlB_cons, if_pos h0] at hx
   have ht : ((x[0].toNat : Int) == 32) = true := by rw [h0]; rfl
   have hb := x[0].toNat_lt
   have hne := str_ne x hp
   have h3 : (1 : Int) <= (x.size : Int) := by omega
   have h1 : 1 <= x.size := hp
   have hz : (x.extract 1 x.size).size = x.size - 1 := by rw [<- len_list (x.extract 1 x.size), Lib.extract_to_end, List.length_drop, len_list]
   have H := Hy (An hx hz)
   obtain ⟨c, hc⟩ : ∃ c, x[0].toNat = c := ⟨_, rfl⟩
   rw [hc] at ht hb
   clear hx hcut h0 h32 hz
   go_wp2
   refine ⟨⟨_, rfl, by rw [H.out.2]; omega, H.out.1⟩, ?_⟩
   show (x.extract 1 x.size).size < x.size
   rw [H.out.2]; omega
  ·have hT : tlB x.data.toList = x.data.toList := by
    by_cases hp : 0 < x.size
    ·have hcut := list_cut x hp
     rw [hcut, tlB_cons, if_neg (fun e => h ⟨hp, by rw [hcut, e]; rfl⟩)]
    ·have hn : x.data.toList = [] := List.eq_nil_of_length_eq_zero (by rw [len_list]; omega)
     rw [hn]; rfl
   rw [hT, <- rvT_start] at hx
   have hw : x.size = 0 \/ ∃ hp : 0 < x.size, x[0] ≠ 32 := by
    by_cases hp : 0 < x.size
    ·exact .inr ⟨hp, fun e => h ⟨hp, by rw [list_cut x hp, e]; rfl⟩⟩
    ·exact .inl (by omega)
   have HX0 := Hy hx
   clear h hT hx
   rcases hw with hp | ⟨hp, h0⟩
   ·have hne := str_e x hp
    have HN := Hy (show R = some [] by
     have hn : x.data.toList = [] := List.eq_nil_of_length_eq_zero (by rw [len_list]; exact hp)
     rw [<- HX0.out, hn]; rfl)
    have hp0 : ((x.size : Int)) = 0 := by omega
    have hx0 : ¬ ((0 : Int) < (x.size : Int)) := by omega
    have hcv := conv_mid (P := Tryz.prog) (src := 188) (dst := 9) Tryz.underlying188 Tryz.underlying5 Tryz.underlying9 (mid_nil w w.heap.size 5)
    clear hp
    go_wp2
    go_loopw [4, 5, 6] (fun o z v wr => o = .slice none 0 0 /\ z = .int .i64 0 /\ v = .int .i64 0 /\ wr = w) (fun _ _ _ _ => 0)
    case atStart => exact ⟨rfl, rfl, rfl, rfl⟩
    case round =>
     obtain ⟨rfl, rfl, rfl, rfl⟩ := hrel
     go_wp2
     go_ret2
     exact ⟨by rw [HN.out]; rfl, Below.refl _ _⟩
   ·have hne := str_ne x hp
    have ht : ((x[0].toNat : Int) == 32) = false := by
     rw [beq_eq_false_iff_ne]; intro hh; apply h0; apply UInt8.toNat_inj.1; show _ = 32; omega
    have hb := x[0].toNat_lt
    obtain ⟨c0, hc0⟩ : ∃ c0, x[0].toNat = c0 := ⟨_, rfl⟩
    rw [hc0] at ht hb
    clear h0
    go_wp2
    go_loopw [4, 5, 6] (fun o z v wr => ∃ (k n : Nat) (out : List UInt8), k <= x.size /\ v = .int .i64 (k : Nat) /\ z = .int .i64 (n : Nat) /\ n <= out.length /\ out.length <= k /\ wr.ownsRow w.heap.size 5 1 o out.length (bc out) /\ Below w.heap.size w wr /\
     rvT out n (decide (out.length = 0)) (x.data.toList.drop k) = R) (fun _ _ v _ => x.size - (intOf v).toNat)
    case atStart => exact ⟨0, 0, [], by omega, rfl, rfl, by simp, by simp, World.ownsRow_nil _ _ _ _, Below.refl _ _, HX0.out⟩
    case round =>
     obtain ⟨k, n, out, hk, rfl, rfl, hn, hok, hown, hb2, hinv⟩ := hrel
     clear hne ht hb hc0
     by_cases hlt : k < x.size
     ·have hl := len_list x
      have hkl : (k : Int) < (x.size : Int) := by omega
      have h8 : x[k].toNat < 256 := x[k].toNat_lt
      have hd := drop_at x.data.toList k (by omega)
      rw [at_list x k hlt] at hd
      rw [hd] at hinv
      have H := Hy (An hown (An hb2 (An hn hok)))
      have HK := Hy (An (show ∀ d : UInt8, decide ((out ++ [d]).length = 0) = false by intro d; simp) hl)
      clear hown hb2 hd hl
      obtain ⟨c, hc⟩ : ∃ c, x[k] = c := ⟨_, rfl⟩
      rw [hc] at h8 hinv
      have hxk : x[k].toNat = c.toNat := by rw [hc]
      by_cases h92 : c.toNat = 92
      ·obtain rfl : c = 92 := UInt8.toNat_inj.1 h92
       have HC := Hy (HSp.out 92)
       change Hid (∀ w, Calls Tryz.prog _ #[.int .u8 92] w (PureB true w)) at HC
       clear h92
       change x[k].toNat = 92 at hxk
       clear h8
       by_cases hk1 : k + 1 < x.size
       ·have hk1' : (k : Int) + 1 < (x.size : Int) := by omega
        have hk0' : (0 : Int) <= (k : Int) + 1 := by omega
        obtain ⟨d, hd⟩ : ∃ d, x[k + 1] = d := ⟨_, rfl⟩
        have h8d : d.toNat < 256 := d.toNat_lt
        have hxd : x[k + 1].toNat = d.toNat := by rw [hd]
        have HS := Hy (HSp.out d.toNat)
        by_cases hm : mayN d.toNat = true
        ·have HI := Hy (show rvT (out ++ [d]) (out.length + 1) false (x.data.toList.drop (k + 2)) = R by
          have hrm := rm_at x (k + 1) hk1 (by rw [hd]; exact hm)
          rw [hd] at hrm
          rw [<- hinv]; exact (rvT_s _ _ _ (k + 1) 1 _ d hrm).symm)
         have hways := may_ways hm
         clear hinv hd hm
         rcases hways with e1 | ⟨e1, e2⟩ | ⟨e1, e2, e3⟩
         all_goals
          rw [e1] at HS
          try have q2 : ((d.toNat : Int) == 32) = false := eq_f e2
          try have q2 : ((d.toNat : Int) == 32) = true := eq_t e2
          try have q3 : ((d.toNat : Int) == 35) = true := eq_t e3
          clear e1
          try clear e2
          try clear e3
          go_wp2_with (first | (go_at_call 187; refine (HS.out _).mono ?_; rintro e w2 ⟨rfl, hw2⟩; obtain rfl := hw2.symm; clear hw2) | (at_builtin; refine wpList_pushm rfl (.tmp 63) (.tmp 68) 188 5 rfl w.heap.size 1 1 (.int .u8 0) Tryz.info5 Tryz.underlying188 rfl (by decide) 1 [.int .u8 (d.toNat : Int)] rfl ?c0 _ out.length _ rfl _ rfl ?c3 H.out.1 ?c1 ?c2 H.out.2.1.size ?_))
          case c0 => first | rfl | (intro u hu; simp at hu; subst hu; rfl)
          case c1 => have := H.out.2.2.2; unfold maxLen; omega
          case c2 => have := H.out.2.2.2; omega
          case c3 => rfl
          intro v' w' g1 g2
          obtain ⟨va, vc, rfl⟩ := ownsRow_slice g1
          have g3 : w'.ownsRow w.heap.size 5 1 (.slice va (out.length + 1) vc) (out ++ [d]).length (bc (out ++ [d])) := by rw [bc_append, List.length_append]; exact g1
          have H2 := Hy (An g3 (H.out.2.1.trans g2))
          clear g1 g2 g3
          go_wp2
          refine ⟨⟨k + 2, out.length + 1, out ++ [d], by omega, by go_num, by go_num, by simp, by have := H.out.2.2.2; simp; omega, H2.out.1, H2.out.2, by rw [HK.out.1]; exact HI.out⟩, by simp [intOf]; omega⟩
        ·obtain ⟨e1, e2, e3⟩ := may_not hm
         have q2 : ((d.toNat : Int) == 32) = false := eq_f e2
         have q3 : ((d.toNat : Int) == 35) = false := eq_f e3
         rw [e1] at HS
         clear e1 e2 e3
         by_cases hk2 : k + 2 < x.size
         ·have hk2' : (k : Int) + 2 < (x.size : Int) := by omega
          have hk02' : (0 : Int) <= (k : Int) + 2 := by omega
          obtain ⟨f, hf⟩ : ∃ f, x[k + 2] = f := ⟨_, rfl⟩
          have h8f : f.toNat < 256 := f.toNat_lt
          have hxf : x[k + 2].toNat = f.toNat := by rw [hf]
          have hrm := rm_two x (k + 1) hk2 (by rw [hd]; exact hm)
          rw [hd, show x[k + 1 + 1] = f from hf] at hrm
          have HX1 := Hy (HHx.out d.toNat h8d)
          have HX2 := Hy (HHx.out f.toNat h8f)
          obtain ⟨a, ha⟩ : ∃ a, hxN d.toNat = a := ⟨_, rfl⟩
          obtain ⟨b, hb⟩ : ∃ b, hxN f.toNat = b := ⟨_, rfl⟩
          rw [ha] at HX1
          rw [hb] at HX2
          rw [ha, hb] at hrm
          clear hd hf hm ha hb
          by_cases ha : a < 16
          ·have qx : ((a : Int) < 16) := by omega
           by_cases hb : b < 16
           ·have qy : ((b : Int) < 16) := by omega
            rw [if_pos ⟨ha, hb⟩] at hrm
            have HI := Hy (show rvT (out ++ [UInt8.ofNat (16 * a + b)]) (out.length + 1) false (x.data.toList.drop (k + 3)) = R by
             rw [<- hinv]; exact (rvT_s _ _ _ (k + 1) 2 _ _ hrm).symm)
            have HB := Hy (bc_byte (16 * a + b) (by omega))
            have w1 : IntKind.i64.wrap (16 * (a : Int)) = 16 * (a : Int) := by rw [IntKind.wrap_i64]; omega
            have w2 : IntKind.i64.wrap (16 * (a : Int) + (b : Int)) = 16 * (a : Int) + (b : Int) := by rw [IntKind.wrap_i64]; omega
            have w3 : IntKind.u8.wrap (16 * (a : Int) + (b : Int)) = 16 * (a : Int) + (b : Int) := by simp [IntKind.wrap, IntKind.signed, IntKind.bits]; omega
            have w4 : IntKind.i64.wrap ((k : Int) + 1) = (k : Int) + 1 := by rw [IntKind.wrap_i64]; omega
            have w5 : IntKind.i64.wrap ((k : Int) + 2) = (k : Int) + 2 := by rw [IntKind.wrap_i64]; omega
            have ht2 : ((k : Int) + 2).toNat = k + 2 := by omega
            clear hinv hrm ha hb
            go_wp2_with (first | (go_at_call 187; refine (HS.out _).mono ?_; rintro e w2 ⟨rfl, hw2⟩; obtain rfl := hw2.symm; clear hw2) | (go_at_call 188; (first | with_reducible refine (HX1.out _).mono ?_ | with_reducible refine (HX2.out _).mono ?_); rintro e w2 ⟨rfl, hw2⟩; obtain rfl := hw2.symm; clear hw2))
            go_region_law (first | (refine step_pushm rfl (.tmp 100) (.tmp 114) 188 5 rfl w.heap.size 1 1 (.int .u8 0) Tryz.info5 Tryz.underlying188 rfl (by decide) wr.drew 1 [_] rfl rfl (by intro u hu; simp at hu; subst hu; rfl) _ out.length (bc out) rfl _ rfl rfl (ownsRow_heap H.out.1 rfl) (by have := H.out.2.2.2; unfold maxLen; omega) (by have := H.out.2.2.2; omega) H.out.2.1.size ?_; intro v' w' h1 h2) | (go_simp; go_at_call 188; (first | with_reducible refine (HX1.out _).mono ?_ | with_reducible refine (HX2.out _).mono ?_); rintro e w2 ⟨rfl, hw2⟩; obtain rfl := hw2.symm; clear hw2))
            all_goals
             obtain ⟨va, vc, rfl⟩ := ownsRow_slice h1
             have HV := Hy (An h1 h2)
             clear h1 h2
             go_wp2
             refine ⟨⟨k + 3, out.length + 1, out ++ [UInt8.ofNat (16 * a + b)], by omega, by go_num, by go_num, by simp, by have := H.out.2.2.2; simp; omega, ?_, H.out.2.1.trans ((Below.refl _ wr).drew.trans HV.out.2), by rw [HK.out.1]; exact HI.out⟩, by simp [intOf]; omega⟩
             rw [bc_append, List.length_append, HB.out]
             have e3 : ((16 * a + b : Nat) : Int) = 16 * (a : Int) + (b : Int) := by omega
             rw [e3]
             exact HV.out.1
           ·have qy : ¬ ((b : Int) < 16) := by omega
            rw [if_neg (by omega)] at hrm
            have HI := Hy (show R = none by rw [<- hinv]; exact rvT_sn _ _ _ (k + 1) _ hrm)
            have w4 : IntKind.i64.wrap ((k : Int) + 1) = (k : Int) + 1 := by rw [IntKind.wrap_i64]; omega
            have w5 : IntKind.i64.wrap ((k : Int) + 2) = (k : Int) + 2 := by rw [IntKind.wrap_i64]; omega
            have ht2 : ((k : Int) + 2).toNat = k + 2 := by omega
            clear hinv hrm ha hb
            go_wp2_with (first | (go_at_call 187; (first | with_reducible refine (HS.out _).mono ?_ | with_reducible refine (HC.out _).mono ?_); rintro e w2 ⟨rfl, hw2⟩; obtain rfl := hw2.symm; clear hw2) | (go_at_call 188; (first | with_reducible refine (HX1.out _).mono ?_ | with_reducible refine (HX2.out _).mono ?_); rintro e w2 ⟨rfl, hw2⟩; obtain rfl := hw2.symm; clear hw2))
            go_ret2
            exact ⟨by rw [HI.out]; rfl, H.out.2.1⟩
          ·have qx : ¬ ((a : Int) < 16) := by omega
           rw [if_neg (by omega)] at hrm
           have HI := Hy (show R = none by rw [<- hinv]; exact rvT_sn _ _ _ (k + 1) _ hrm)
           have w4 : IntKind.i64.wrap ((k : Int) + 1) = (k : Int) + 1 := by rw [IntKind.wrap_i64]; omega
           clear hinv hrm ha
           go_wp2_with (first | (go_at_call 187; (first | with_reducible refine (HS.out _).mono ?_ | with_reducible refine (HC.out _).mono ?_); rintro e w2 ⟨rfl, hw2⟩; obtain rfl := hw2.symm; clear hw2) | (go_at_call 188; (first | with_reducible refine (HX1.out _).mono ?_); rintro e w2 ⟨rfl, hw2⟩; obtain rfl := hw2.symm; clear hw2))
           go_ret2
           exact ⟨by rw [HI.out]; rfl, H.out.2.1⟩
         ·have hk2' : ¬ ((k : Int) + 2 < (x.size : Int)) := by omega
          have HI := Hy (show R = none by rw [<- hinv]; exact rvT_sn _ _ _ (k + 1) _ (rm_last x (k + 1) hk1 (by omega) (by rw [hd]; exact hm)))
          clear hinv hd hm hk2
          go_wp2_with (go_at_call 187; (first | with_reducible refine (HS.out _).mono ?_ | with_reducible refine (HC.out _).mono ?_); rintro e w2 ⟨rfl, hw2⟩; obtain rfl := hw2.symm; clear hw2)
          go_ret2
          exact ⟨by rw [HI.out]; rfl, H.out.2.1⟩
       ·have hk1' : ¬ ((k : Int) + 1 < (x.size : Int)) := by omega
        have hk2' : ¬ ((k : Int) + 2 < (x.size : Int)) := by omega
        have HI := Hy (show R = none by rw [<- hinv]; exact rvT_sn _ _ _ (k + 1) _ (rm_end x (k + 1) (by omega)))
        clear hinv hk1
        go_wp2_with (go_at_call 187; (with_reducible refine (HC.out _).mono ?_); rintro e w2 ⟨rfl, hw2⟩; obtain rfl := hw2.symm; clear hw2)
        go_ret2
        exact ⟨by rw [HI.out]; rfl, H.out.2.1⟩
      ·have hc92 : c ≠ 92 := fun e => h92 (by rw [e]; rfl)
       have q : ((c.toNat : Int) == 92) = false := eq_f h92
       by_cases h32 : c.toNat = 32
       ·obtain rfl : c = 32 := UInt8.toNat_inj.1 h32
        rw [rvT_blank _ _ _ _ H.out.2.2.1] at hinv
        have HI := Hy hinv
        change x[k].toNat = 32 at hxk
        clear hinv h32 h92 q h8 hc92
        go_wp2_with (at_builtin; refine wpList_pushm rfl (.tmp 123) (.tmp 125) 188 5 rfl w.heap.size 1 1 (.int .u8 0) Tryz.info5 Tryz.underlying188 rfl (by decide) 1 [.int .u8 32] rfl ?c0 _ out.length _ rfl _ rfl ?c3 H.out.1 ?c1 ?c2 H.out.2.1.size ?_)
        case c0 => first | rfl | (intro u hu; simp at hu; subst hu; rfl)
        case c1 => have := H.out.2.2.2; unfold maxLen; omega
        case c2 => have := H.out.2.2.2; omega
        case c3 => rfl
        intro v' w' g1 g2
        obtain ⟨va, vc, rfl⟩ := ownsRow_slice g1
        have g3 : w'.ownsRow w.heap.size 5 1 (.slice va (out.length + 1) vc) (out ++ [32]).length (bc (out ++ [32])) := by rw [bc_append, List.length_append]; exact g1
        have H2 := Hy (An g3 (H.out.2.1.trans g2))
        clear g1 g2 g3
        go_wp2
        refine ⟨⟨k + 1, n, out ++ [32], by omega, by go_num, rfl, by simp; have := H.out.2.2.1; omega, by have := H.out.2.2.2; simp; omega, H2.out.1, H2.out.2, by rw [HK.out.1]; exact HI.out⟩, by simp [intOf]; omega⟩
       ·have hc32 : c ≠ 32 := fun e => h32 (by rw [e]; rfl)
        have q2 : ((c.toNat : Int) == 32) = false := eq_f h32
        have HS := Hy (HSp.out c.toNat)
        by_cases hbad : bareN c.toNat = true \/ (c ≠ 61 /\ mkN (decide (out.length = 0)) false c.toNat = true)
        ·have HI := Hy (show R = none by rw [<- hinv]; exact rvT_none _ _ _ _ (rvG_bad _ _ _ hc32 hc92 hbad))
         have hways : ((c.toNat : Int) < 32) \/ (¬ ((c.toNat : Int) < 32) /\ c.toNat = 127) \/ (¬ ((c.toNat : Int) < 32) /\ c.toNat ≠ 127 /\ spN c.toNat = true /\ c.toNat ≠ 61) \/ (¬ ((c.toNat : Int) < 32) /\ c.toNat ≠ 127 /\ spN c.toNat = false /\ c.toNat = 35 /\ out.length = 0) := by
          by_cases hb : bareN c.toNat = true
          ·simp only [bareN, Bool.or_eq_true, decide_eq_true_eq] at hb; omega
          ·have hbf : bareN c.toNat = false := by simpa using hb
           obtain ⟨b1, b2⟩ := bare_f hbf
           rcases hbad with hbad | ⟨h61, hmk⟩
           ·exact absurd hbad hb
           ·have h61' : c.toNat ≠ 61 := fun e => h61 (UInt8.toNat_inj.1 e)
            unfold mkN at hmk
            rw [if_neg h32] at hmk
            by_cases h35 : c.toNat = 35
            ·rw [if_pos h35] at hmk
             exact .inr (.inr (.inr ⟨b1, b2, by rw [h35]; decide, h35, by simpa using hmk⟩))
            ·rw [if_neg h35] at hmk
             exact .inr (.inr (.inl ⟨b1, b2, hmk, h61'⟩))
         clear hinv hbad h32 h92 hc92 hc32
         rcases hways with e1 | ⟨e1, e2⟩ | ⟨e1, e2, e3, e4⟩ | ⟨e1, e2, e3, e4, e5⟩
         ·clear HS
          go_wp2
          go_ret2
          exact ⟨by rw [HI.out]; rfl, H.out.2.1⟩
         ·have q3 : ((c.toNat : Int) == 127) = true := eq_t e2
          clear e2 HS
          go_wp2
          go_ret2
          exact ⟨by rw [HI.out]; rfl, H.out.2.1⟩
         ·have q3 : ((c.toNat : Int) == 127) = false := eq_f e2
          have q4 : ((c.toNat : Int) != 61) = true := ne_t e4
          rw [e3] at HS
          clear e2 e3 e4
          go_wp2_with (go_at_call 187; (with_reducible refine (HS.out _).mono ?_); rintro e w2 ⟨rfl, hw2⟩; obtain rfl := hw2.symm; clear hw2)
          go_ret2
          exact ⟨by rw [HI.out]; rfl, H.out.2.1⟩
         ·have q3 : ((c.toNat : Int) == 127) = false := eq_f e2
          have q4 : ((c.toNat : Int) == 35) = true := eq_t e4
          have q5 : ((out.length : Int) == 0) = true := eq_t e5
          have hxs0 : out = [] := List.eq_nil_of_length_eq_zero e5
          rw [e3] at HS
          obtain ⟨va, vc, rfl⟩ := ownsRow_slice H.out.1
          clear e2 e3 e4 e5 hxs0
          go_wp2_with (go_at_call 187; (with_reducible refine (HS.out _).mono ?_); rintro e w2 ⟨rfl, hw2⟩; obtain rfl := hw2.symm; clear hw2)
          go_ret2
          exact ⟨by rw [HI.out]; rfl, H.out.2.1⟩
        ·have HI := Hy (show rvT (out ++ [c]) (out.length + 1) false (x.data.toList.drop (k + 1)) = R by rw [<- hinv]; exact (rvT_add _ _ _ c _ _ (rvG_else _ _ _ hc32 hc92 hbad)).symm)
         rw [not_or] at hbad
         obtain ⟨hb1, hb2⟩ := hbad
         have hbf : bareN c.toNat = false := by simpa using hb1
         obtain ⟨b1, b2⟩ := bare_f hbf
         have hways : (spN c.toNat = false /\ c.toNat ≠ 35) \/ (spN c.toNat = false /\ c.toNat = 35 /\ out.length ≠ 0) \/ (spN c.toNat = true /\ c.toNat = 61 /\ c.toNat ≠ 35) := by
          by_cases h61 : c.toNat = 61
          ·exact .inr (.inr ⟨by rw [h61]; decide, h61, by omega⟩)
          ·have hmk : ¬ mkN (decide (out.length = 0)) false c.toNat = true := fun e => hb2 ⟨fun e2 => h61 (by rw [e2]; rfl), e⟩
           unfold mkN at hmk
           rw [if_neg h32] at hmk
           by_cases h35 : c.toNat = 35
           ·rw [if_pos h35] at hmk
            exact .inr (.inl ⟨by rw [h35]; decide, h35, by simpa using hmk⟩)
           ·rw [if_neg h35] at hmk
            exact .inl ⟨by simpa using hmk, h35⟩
         have q3 : ((c.toNat : Int) == 127) = false := eq_f b2
         obtain ⟨va0, vc0, rfl⟩ := ownsRow_slice H.out.1
         clear hinv hb1 hb2 hbf b2 h32 h92 hc92 hc32
         rcases hways with ⟨e1, e2⟩ | ⟨e1, e2, e3⟩ | ⟨e1, e2, e3⟩
         ·have q4 : ((c.toNat : Int) == 35) = false := eq_f e2
          rw [e1] at HS
          clear e1 e2
          go_wp2_with (first | (go_at_call 187; (with_reducible refine (HS.out _).mono ?_); rintro e w2 ⟨rfl, hw2⟩; obtain rfl := hw2.symm; clear hw2) | (at_builtin; refine wpList_pushm rfl (.tmp 26) (.tmp 28) 188 5 rfl w.heap.size 1 1 (.int .u8 0) Tryz.info5 Tryz.underlying188 rfl (by decide) 1 [.int .u8 (c.toNat : Int)] rfl ?c0 _ out.length _ rfl _ rfl ?c3 H.out.1 ?c1 ?c2 H.out.2.1.size ?_))
          case c0 => first | rfl | (intro u hu; simp at hu; subst hu; rfl)
          case c1 => have := H.out.2.2.2; unfold maxLen; omega
          case c2 => have := H.out.2.2.2; omega
          case c3 => rfl
          intro v' w' g1 g2
          obtain ⟨va, vc, rfl⟩ := ownsRow_slice g1
          have g3 : w'.ownsRow w.heap.size 5 1 (.slice va (out.length + 1) vc) (out ++ [c]).length (bc (out ++ [c])) := by rw [bc_append, List.length_append]; exact g1
          have H2 := Hy (An g3 (H.out.2.1.trans g2))
          clear g1 g2 g3
          go_wp2
          refine ⟨⟨k + 1, out.length + 1, out ++ [c], by omega, by go_num, by go_num, by simp, by have := H.out.2.2.2; simp; omega, H2.out.1, H2.out.2, by rw [HK.out.1]; exact HI.out⟩, by simp [intOf]; omega⟩
         ·have q4 : ((c.toNat : Int) == 35) = true := eq_t e2
          have q5 : ((out.length : Int) == 0) = false := eq_f e3
          rw [e1] at HS
          clear e1 e2 e3
          go_wp2_with (first | (go_at_call 187; (with_reducible refine (HS.out _).mono ?_); rintro e w2 ⟨rfl, hw2⟩; obtain rfl := hw2.symm; clear hw2) | (at_builtin; refine wpList_pushm rfl (.tmp 26) (.tmp 28) 188 5 rfl w.heap.size 1 1 (.int .u8 0) Tryz.info5 Tryz.underlying188 rfl (by decide) 1 [.int .u8 (c.toNat : Int)] rfl ?c0 _ out.length _ rfl _ rfl ?c3 H.out.1 ?c1 ?c2 H.out.2.1.size ?_))
          case c0 => first | rfl | (intro u hu; simp at hu; subst hu; rfl)
          case c1 => have := H.out.2.2.2; unfold maxLen; omega
          case c2 => have := H.out.2.2.2; omega
          case c3 => rfl
          intro v' w' g1 g2
          obtain ⟨va, vc, rfl⟩ := ownsRow_slice g1
          have g3 : w'.ownsRow w.heap.size 5 1 (.slice va (out.length + 1) vc) (out ++ [c]).length (bc (out ++ [c])) := by rw [bc_append, List.length_append]; exact g1
          have H2 := Hy (An g3 (H.out.2.1.trans g2))
          clear g1 g2 g3
          go_wp2
          refine ⟨⟨k + 1, out.length + 1, out ++ [c], by omega, by go_num, by go_num, by simp, by have := H.out.2.2.2; simp; omega, H2.out.1, H2.out.2, by rw [HK.out.1]; exact HI.out⟩, by simp [intOf]; omega⟩
         ·have q4 : ((c.toNat : Int) == 35) = false := eq_f e3
          have q5 : ((c.toNat : Int) != 61) = false := ne_f e2
          rw [e1] at HS
          clear e1 e2 e3
          go_wp2_with (first | (go_at_call 187; (with_reducible refine (HS.out _).mono ?_); rintro e w2 ⟨rfl, hw2⟩; obtain rfl := hw2.symm; clear hw2) | (at_builtin; refine wpList_pushm rfl (.tmp 26) (.tmp 28) 188 5 rfl w.heap.size 1 1 (.int .u8 0) Tryz.info5 Tryz.underlying188 rfl (by decide) 1 [.int .u8 (c.toNat : Int)] rfl ?c0 _ out.length _ rfl _ rfl ?c3 H.out.1 ?c1 ?c2 H.out.2.1.size ?_))
          case c0 => first | rfl | (intro u hu; simp at hu; subst hu; rfl)
          case c1 => have := H.out.2.2.2; unfold maxLen; omega
          case c2 => have := H.out.2.2.2; omega
          case c3 => rfl
          intro v' w' g1 g2
          obtain ⟨va, vc, rfl⟩ := ownsRow_slice g1
          have g3 : w'.ownsRow w.heap.size 5 1 (.slice va (out.length + 1) vc) (out ++ [c]).length (bc (out ++ [c])) := by rw [bc_append, List.length_append]; exact g1
          have H2 := Hy (An g3 (H.out.2.1.trans g2))
          clear g1 g2 g3
          go_wp2
          refine ⟨⟨k + 1, out.length + 1, out ++ [c], by omega, by go_num, by go_num, by simp, by have := H.out.2.2.2; simp; omega, H2.out.1, H2.out.2, by rw [HK.out.1]; exact HI.out⟩, by simp [intOf]; omega⟩
     ·obtain rfl : k = x.size := by omega
      rw [List.drop_of_length_le (by rw [len_list]; exact Nat.le_refl _), rvT_end] at hinv
      rcases hown.2 with ⟨hv, h0⟩ | ⟨g, cap, cur, hv, hB, hg, hnc, hm, hcs, htk⟩
      ·have hout : out = [] := List.eq_nil_of_length_eq_zero h0
       have hn0 : n = 0 := by omega
       subst hout hn0 hv
       have hcv := conv_mid (P := Tryz.prog) (src := 188) (dst := 9) Tryz.underlying188 Tryz.underlying5 Tryz.underlying9 (mid_nil wr w.heap.size 5)
       have H := Hy (An hb2 hinv.symm)
       clear hb2 hown hinv
       go_wp2
       go_ret2
       exact ⟨by rw [H.out.2]; rfl, H.out.1⟩
      ·have hmid := mid_owns hown
       subst hv
       have hmt := mid_take hmid n hn
       have hcv := conv_mid (P := Tryz.prog) (src := 188) (dst := 9) Tryz.underlying188 Tryz.underlying5 Tryz.underlying9 hmt
       have hnc' : (n : Int) <= (cap : Int) := by omega
       have H := Hy (An hb2 hinv.symm)
       clear hb2 hown hinv hmid hmt hg htk hcs
       go_wp2
       go_ret2
       exact ⟨by rw [H.out.2]; rfl, H.out.1⟩
end Go.Proofs.YtpkbgkoocijegaaGreatDoor
