/- A value's text read, for every text. A pair's text read, for every text. A name that a call lays anew: its rows in memory, each for itself. The name of a name's texts, for all texts. Whether a name has too many parts, or pairs; and Read, for every text. -/
import Derived.Test.YtpkbgkoocijegaaGreatDoorDqF
import Derived.Test.YtpkbgkoocijegaaGreatDoorDqB
import Derived.Test.YtpkbgkoocijegaaGreatDoorDqE
import Derived.StillTailTactics
import Derived.Test.YtpkbgkoocijegaaGreatDoorDqC
set_option linter.unusedVariables false
set_option linter.unusedSimpArgs false
set_option maxHeartbeats 25600000
set_option maxRecDepth 100000
namespace Go.Proofs.YtpkbgkoocijegaaGreatDoor
open Go Go.RowKit Go.Proofs.BerK Go.Proofs.MemK Go.Proofs.UtfK
def rvT (out : List UInt8) (size : Nat) (f : Bool) (l : List UInt8) : Option (List UInt8) := (rvG f l).map fun v => if v = [] then out.take size else out ++ v
theorem rvG_blank (f : Bool) (r : List UInt8) : rvG f (32 :: r) = (rvG false r).map fun v => if v = [] then [] else 32 :: v := by
 conv => lhs; unfold rvG
 cases r with
 | nil => simp
 | cons d r => cases r <;> simp
theorem rvG_slash (f : Bool) (r : List UInt8) : rvG f (92 :: r) = match rmL r with | none => none | some (c, n) => (rvG false (r.drop n)).map (c :: ·) := by
 conv => lhs; unfold rvG
 cases r with
 | nil => simp [rmL]
 | cons d r =>
  cases r with
  | nil => by_cases h : mayN d.toNat = true <;> simp [rmL, h]
  | cons e r =>
   by_cases h : mayN d.toNat = true
   ·simp [rmL, h]
   ·by_cases h2 : hxN d.toNat < 16 /\ hxN e.toNat < 16 <;> simp [rmL, h, h2]
theorem rvG_bad (f : Bool) (c : UInt8) (r : List UInt8) (h1 : c ≠ 32) (h2 : c ≠ 92) (h : bareN c.toNat = true \/ (c ≠ 61 /\ mkN f false c.toNat = true)) : rvG f (c :: r) = none := by
 conv => lhs; unfold rvG
 cases r with
 | nil => rw [if_neg h1, if_neg h2, if_pos h]
 | cons d r => cases r <;> (rw [if_neg h1, if_neg h2, if_pos h])
theorem rvG_else (f : Bool) (c : UInt8) (r : List UInt8) (h1 : c ≠ 32) (h2 : c ≠ 92) (h : ¬ (bareN c.toNat = true \/ (c ≠ 61 /\ mkN f false c.toNat = true))) : rvG f (c :: r) = (rvG false r).map (c :: ·) := by
 conv => lhs; unfold rvG
 cases r with
 | nil => rw [if_neg h1, if_neg h2, if_neg h]
 | cons d r => cases r <;> (rw [if_neg h1, if_neg h2, if_neg h])
theorem rvT_blank (out : List UInt8) (size : Nat) (f : Bool) (r : List UInt8) (h : size <= out.length) : rvT out size f (32 :: r) = rvT (out ++ [32]) size false r := by
 unfold rvT
 rw [rvG_blank, Option.map_map]
 congr 1
 funext v
 simp only [Function.comp]
 by_cases hv : v = []
 ·subst hv; simp [List.take_append_of_le_length h]
 ·simp [hv]
theorem rvT_add (out : List UInt8) (size : Nat) (f : Bool) (c : UInt8) (l r : List UInt8) (h : rvG f l = (rvG false r).map (c :: ·)) : rvT out size f l = rvT (out ++ [c]) (out.length + 1) false r := by
 unfold rvT
 rw [h, Option.map_map]
 congr 1
 funext v
 simp only [Function.comp]
 by_cases hv : v = []
 ·subst hv; rw [if_neg (by simp), if_pos rfl, List.take_of_length_le (by simp)]
 ·simp [hv]
theorem rvT_none (out : List UInt8) (size : Nat) (f : Bool) (l : List UInt8) (h : rvG f l = none) : rvT out size f l = none := by rw [rvT, h]; rfl
theorem rvT_end (out : List UInt8) (size : Nat) (f : Bool) : rvT out size f [] = some (out.take size) := by simp [rvT, rvG]
theorem rvT_start (l : List UInt8) : rvT [] 0 true l = rvG true l := by
 unfold rvT
 cases h : rvG true l with
 | none => rfl
 | some v => by_cases hv : v = [] <;> simp [hv]
theorem rm_len {l : List UInt8} {c : UInt8} {n : Nat} (h : rmL l = some (c, n)) : 1 <= n /\ n <= 2 /\ n <= l.length := by
 cases l with
 | nil => simp [rmL] at h
 | cons d r =>
  by_cases hm : mayN d.toNat = true
  ·rw [rmL_may _ _ hm] at h; injection h with h; injection h with _ h; subst h; simp
  ·cases r with
   | nil => rw [rmL_one _ hm] at h; cases h
   | cons e r =>
    rw [rmL_two _ _ _ hm] at h
    split at h
    ·injection h with h; injection h with _ h; subst h; simp
    ·cases h
theorem mkN_last (a b b' : Bool) (c : Nat) (h : c ≠ 32) : mkN a b c = mkN a b' c := by simp [mkN, h]
def RvV : Option (List UInt8) -> Value
 | none => .tuple #[.string ⟨#[]⟩, .bool false]
 | some v => .tuple #[.string ⟨v.toArray⟩, .bool true]
def RvPost (o : Option (List UInt8)) (w : World) (en : Ending) (w' : World) : Prop := en = .returned (RvV o) /\ Below w.heap.size w w'
theorem dvalue_any (s : ByteArray) (hs : s.size <= 140737488355328) (w : World) (he : ErrOk w) :
  Calls Tryz.prog 194 #[.string s] w (RvPost (rvL s.data.toList) w) := by
 have HT := Hy (triml_any s)
 have hRV : rvL s.data.toList = rvT [] 0 true (tlB s.data.toList) := by rw [rvT_start]; rfl
 obtain ⟨x, hx⟩ : ∃ x : ByteArray, x = ⟨(tlB s.data.toList).toArray⟩ := ⟨_, rfl⟩
 have hxl : x.data.toList = tlB s.data.toList := by rw [hx]
 have hxs : x.size <= 140737488355328 := by
  rw [<- len_list x, hxl]
  have := tlB_len s.data.toList
  rw [len_list] at this; omega
 rw [hRV, <- hxl]
 change Hid (∀ w, Calls Tryz.prog _ _ w fun en w' => en = .returned (.string ⟨(tlB s.data.toList).toArray⟩) /\ w' = w) at HT
 rw [<- hx] at HT
 have HE := Hy he
 clear hRV hx hxl hs he
 go_enter Tryz.func194, Tryz.ntmps194
 go_wp2_with fail
 refine (HT.out _).mono ?_
 rintro e w1 ⟨rfl, hw⟩
 obtain rfl := hw.symm
 go_wp2
 go_loopw [4, 5, 6] (fun o z v wr => ∃ (k n : Nat) (out : List UInt8), k <= x.size /\ v = .int .i64 (k : Nat) /\ z = .int .i64 (n : Nat) /\ n <= out.length /\ out.length <= k /\ wr.ownsRow w.heap.size 5 1 o out.length (bc out) /\ Below w.heap.size w wr /\
  rvT out n (decide (k = 0)) (x.data.toList.drop k) = rvT [] 0 true x.data.toList) (fun _ _ v _ => x.size - (intOf v).toNat)
 case atStart => exact ⟨0, 0, [], by omega, rfl, rfl, by simp, by simp, World.ownsRow_nil _ _ _ _, Below.refl _ _, rfl⟩
 case round =>
  obtain ⟨k, n, out, hk, rfl, rfl, hn, hok, hown, hb, hinv⟩ := hrel
  by_cases hlt : k < x.size
  ·have hl := len_list x
   have hkl : (k : Int) < (x.size : Int) := by omega
   have h8 : x[k].toNat < 256 := x[k].toNat_lt
   have hd := drop_at x.data.toList k (by omega)
   rw [at_list x k hlt] at hd
   rw [hd] at hinv
   have HEr := Hy (errOk_low HE.out hb (Nat.lt_of_lt_of_le (Lib.lt_of_cell HE.out.choose_spec.1) (Nat.le_refl _)))
   have H := Hy (An hown (An hb (An hn hok)))
   have HM := Hy (dmark_any x k hlt hxs)
   have HK := Hy (An (show decide (k + 1 = 0) = false by simp) hd)
   clear hown hb hd hl
   obtain ⟨c, hc⟩ : ∃ c, x[k] = c := ⟨_, rfl⟩
   rw [hc] at h8 hinv HM
   by_cases h32 : c = 32
   ·have q : ((c.toNat : Int) == 32) = true := by rw [h32]; rfl
    rw [h32, rvT_blank _ _ _ _ hn] at hinv
    have HI := Hy hinv
    have HC := Hy h32
    clear hinv h32
    go_wp2_with (at_builtin; refine wpList_pushm rfl (.tmp 23) (.tmp 25) 188 5 rfl w.heap.size 1 1 (.int .u8 0) Tryz.info5 Tryz.underlying188 rfl (by decide) 1 [.int .u8 (c.toNat : Int)] rfl ?c0 _ out.length _ rfl _ rfl ?c3 H.out.1 ?c1 ?c2 H.out.2.1.size ?_)
    case c0 => first | rfl | (intro u hu; simp at hu; subst hu; rfl)
    case c1 => unfold maxLen; omega
    case c2 => omega
    case c3 => rfl
    intro v' w' g1 g2
    have g3 : w'.ownsRow w.heap.size 5 1 v' (out ++ [32]).length (bc (out ++ [32])) := by rw [bc_append, List.length_append]; rw [HC.out] at g1; exact g1
    have H2 := Hy (An g3 (H.out.2.1.trans g2))
    clear g1 g2 g3
    go_wp2
    refine ⟨⟨k + 1, n, out ++ [32], by omega, by go_num, rfl, by simp; omega, by simp; omega, H2.out.1, H2.out.2, by rw [HK.out.1]; exact HI.out⟩, by simp [intOf]; omega⟩
   ·have q : ((c.toNat : Int) == 32) = false := by rw [beq_eq_false_iff_ne]; intro hh; apply h32; apply UInt8.toNat_inj.1; show _ = 32; omega
    by_cases h92 : c = 92
    ·have q2 : ((c.toNat : Int) == 92) = true := by rw [h92]; rfl
     rw [h92] at hinv
     have hex : (x.extract (k + 1) x.size).data.toList = x.data.toList.drop (k + 1) := Lib.extract_to_end x (k + 1)
     have HR := Hy (dmarked_any (x.extract (k + 1) x.size) wr HEr.out)
     rw [hex] at HR
     have hk1 : (k : Int) + 1 <= (x.size : Int) := by omega
     have hk0 : (0 : Int) <= (k : Int) + 1 := by omega
     cases hrm : rmL (x.data.toList.drop (k + 1)) with
     | none =>
      rw [hrm] at HR
      have HI := Hy (show rvT [] 0 true x.data.toList = none by rw [<- hinv]; exact rvT_none _ _ _ _ (by rw [rvG_slash, hrm]))
      change Hid (Calls Tryz.prog _ _ wr fun en w' => en = .returned (.tuple #[.int .u8 0, .int .i64 0]) /\ Below wr.heap.size wr w') at HR
      clear hinv h92 h32 hrm hex
      go_wp2_with fail
      refine HR.out.mono ?_
      rintro e w2 ⟨rfl, hb2⟩
      go_wp2
      go_ret2
      exact ⟨by rw [HI.out]; rfl, H.out.2.1.trans (hb2.mono H.out.2.1.size)⟩
     | some q =>
      obtain ⟨c', n'⟩ := q
      rw [hrm] at HR
      have hrl := rm_len hrm
      rw [List.length_drop, len_list] at hrl
      have HI := Hy (show rvT (out ++ [c']) (out.length + 1) false (x.data.toList.drop (k + 1 + n')) = rvT [] 0 true x.data.toList by
       rw [<- hinv, <- List.drop_drop]; exact (rvT_add _ _ _ c' _ _ (by rw [rvG_slash, hrm])).symm)
      change Hid (Calls Tryz.prog _ _ wr fun en w' => en = .returned (.tuple #[.int .u8 (c'.toNat : Nat), .int .i64 (n' : Nat)]) /\ Below wr.heap.size wr w') at HR
      have hn0 : ((n' : Int) == 0) = false := by rw [beq_eq_false_iff_ne]; omega
      have hn2 : (n' : Int) <= 2 := by omega
      clear hinv h92 h32 hrm hex
      go_wp2_with fail
      refine HR.out.mono ?_
      rintro e w2 ⟨rfl, hb2⟩
      have HB2 := Hy (An (ownsRow_below H.out.1 hb2) (H.out.2.1.trans (hb2.mono H.out.2.1.size)))
      clear hb2
      go_wp2_with (at_builtin; refine wpList_pushm rfl (.tmp 55) (.tmp 57) 188 5 rfl w.heap.size 1 1 (.int .u8 0) Tryz.info5 Tryz.underlying188 rfl (by decide) 1 [.int .u8 (c'.toNat : Int)] rfl ?c0 _ out.length _ rfl _ rfl ?c3 HB2.out.1 ?c1 ?c2 HB2.out.2.size ?_)
      case c0 => first | rfl | (intro u hu; simp at hu; subst hu; rfl)
      case c1 => unfold maxLen; omega
      case c2 => omega
      case c3 => rfl
      intro v' w' g1 g2
      obtain ⟨va, vc, rfl⟩ := ownsRow_slice g1
      have g3 : w'.ownsRow w.heap.size 5 1 (.slice va (out.length + 1) vc) (out ++ [c']).length (bc (out ++ [c'])) := by rw [bc_append, List.length_append]; exact g1
      have H2 := Hy (An g3 (HB2.out.2.trans g2))
      clear g1 g2 g3
      go_wp2
      refine ⟨⟨k + 1 + n', out.length + 1, out ++ [c'], by omega, by go_num, by go_num, by simp, by simp; omega, H2.out.1, H2.out.2, by rw [show decide (k + 1 + n' = 0) = false by simp]; exact HI.out⟩, by simp [intOf]; omega⟩
    ·have q2 : ((c.toNat : Int) == 92) = false := by rw [beq_eq_false_iff_ne]; intro hh; apply h92; apply UInt8.toNat_inj.1; show _ = 92; omega
     have HBR := Hy (dbare_any c.toNat)
     have hk61 : ((⟨#[61]⟩ : ByteArray)[0]'(by decide)).toNat = 61 := rfl
     by_cases hbr : bareN c.toNat = true
     ·rw [hbr] at HBR
      have HI := Hy (show rvT [] 0 true x.data.toList = none by rw [<- hinv]; exact rvT_none _ _ _ _ (rvG_bad _ _ _ h32 h92 (.inl hbr)))
      clear hinv h92 h32 hbr
      go_wp2_with fail
      refine (HBR.out _).mono ?_
      rintro e w2 ⟨rfl, hw⟩
      obtain rfl := hw.symm
      go_wp2
      go_ret2
      exact ⟨by rw [HI.out]; rfl, H.out.2.1⟩
     ·have hbf : bareN c.toNat = false := by simpa using hbr
      rw [hbf] at HBR
      by_cases h61 : c = 61
      ·have q3 : ((c.toNat : Int) != 61) = false := by rw [h61]; rfl
       have HI := Hy (show rvT (out ++ [c]) (out.length + 1) false (x.data.toList.drop (k + 1)) = rvT [] 0 true x.data.toList by
        rw [<- hinv]; exact (rvT_add _ _ _ c _ _ (rvG_else _ _ _ h32 h92 (fun hh => by rcases hh with hh | ⟨hh, _⟩; exact hbr hh; exact hh h61))).symm)
       clear hinv h92 h32 hbr hbf h61
       go_wp2_with fail
       refine (HBR.out _).mono ?_
       rintro e w2 ⟨rfl, hw⟩
       obtain rfl := hw.symm
       go_wp2_with (at_builtin; refine wpList_pushm rfl (.tmp 55) (.tmp 57) 188 5 rfl w.heap.size 1 1 (.int .u8 0) Tryz.info5 Tryz.underlying188 rfl (by decide) 1 [.int .u8 (c.toNat : Int)] rfl ?c0 _ out.length _ rfl _ rfl ?c3 H.out.1 ?c1 ?c2 H.out.2.1.size ?_)
       case c0 => first | rfl | (intro u hu; simp at hu; subst hu; rfl)
       case c1 => unfold maxLen; omega
       case c2 => omega
       case c3 => rfl
       intro v' w' g1 g2
       obtain ⟨va, vc, rfl⟩ := ownsRow_slice g1
       have g3 : w'.ownsRow w.heap.size 5 1 (.slice va (out.length + 1) vc) (out ++ [c]).length (bc (out ++ [c])) := by rw [bc_append, List.length_append]; exact g1
       have H2 := Hy (An g3 (H.out.2.1.trans g2))
       clear g1 g2 g3
       go_wp2
       refine ⟨⟨k + 1, out.length + 1, out ++ [c], by omega, by go_num, by go_num, by simp, by simp; omega, H2.out.1, H2.out.2, by rw [HK.out.1]; exact HI.out⟩, by simp [intOf]; omega⟩
      ·have q3 : ((c.toNat : Int) != 61) = true := by rw [bne_iff_ne]; intro hh; apply h61; apply UInt8.toNat_inj.1; show _ = 61; omega
       have hml := mkN_last (decide (k = 0)) (decide (k + 1 = x.size)) false c.toNat (fun hh => h32 (UInt8.toNat_inj.1 hh))
       rw [hml] at HM
       cases hmk : mkN (decide (k = 0)) false c.toNat with
       | true =>
        rw [hmk] at HM
        have HI := Hy (show rvT [] 0 true x.data.toList = none by rw [<- hinv]; exact rvT_none _ _ _ _ (rvG_bad _ _ _ h32 h92 (.inr ⟨h61, hmk⟩)))
        clear hinv h92 h32 hbr hbf h61 hml hmk
        go_wp2_with fail
        refine (HBR.out _).mono ?_
        rintro e w2 ⟨rfl, hw⟩
        obtain rfl := hw.symm
        go_wp2_with fail
        refine (HM.out _).mono ?_
        rintro e w2 ⟨rfl, hw⟩
        obtain rfl := hw.symm
        go_wp2
        go_ret2
        exact ⟨by rw [HI.out]; rfl, H.out.2.1⟩
       | false =>
        rw [hmk] at HM
        have HI := Hy (show rvT (out ++ [c]) (out.length + 1) false (x.data.toList.drop (k + 1)) = rvT [] 0 true x.data.toList by
         rw [<- hinv]; exact (rvT_add _ _ _ c _ _ (rvG_else _ _ _ h32 h92 (fun hh => by rcases hh with hh | ⟨_, hh⟩; exact hbr hh; rw [hmk] at hh; cases hh))).symm)
        clear hinv h92 h32 hbr hbf h61 hml hmk
        go_wp2_with fail
        refine (HBR.out _).mono ?_
        rintro e w2 ⟨rfl, hw⟩
        obtain rfl := hw.symm
        go_wp2_with fail
        refine (HM.out _).mono ?_
        rintro e w2 ⟨rfl, hw⟩
        obtain rfl := hw.symm
        go_wp2_with (at_builtin; refine wpList_pushm rfl (.tmp 55) (.tmp 57) 188 5 rfl w.heap.size 1 1 (.int .u8 0) Tryz.info5 Tryz.underlying188 rfl (by decide) 1 [.int .u8 (c.toNat : Int)] rfl ?c0 _ out.length _ rfl _ rfl ?c3 H.out.1 ?c1 ?c2 H.out.2.1.size ?_)
        case c0 => first | rfl | (intro u hu; simp at hu; subst hu; rfl)
        case c1 => unfold maxLen; omega
        case c2 => omega
        case c3 => rfl
        intro v' w' g1 g2
        obtain ⟨va, vc, rfl⟩ := ownsRow_slice g1
        have g3 : w'.ownsRow w.heap.size 5 1 (.slice va (out.length + 1) vc) (out ++ [c]).length (bc (out ++ [c])) := by rw [bc_append, List.length_append]; exact g1
        have H2 := Hy (An g3 (H.out.2.1.trans g2))
        clear g1 g2 g3
        go_wp2
        refine ⟨⟨k + 1, out.length + 1, out ++ [c], by omega, by go_num, by go_num, by simp, by simp; omega, H2.out.1, H2.out.2, by rw [HK.out.1]; exact HI.out⟩, by simp [intOf]; omega⟩
  ·obtain rfl : k = x.size := by omega
   rw [List.drop_of_length_le (by rw [len_list]; exact Nat.le_refl _), rvT_end] at hinv
   rcases hown.2 with ⟨hv, h0⟩ | ⟨g, cap, cur, hv, hB, hg, hnc, hm, hcs, htk⟩
   ·have hout : out = [] := List.eq_nil_of_length_eq_zero h0
    have hn0 : n = 0 := by omega
    subst hout hn0 hv
    have hcv := conv_mid (P := Tryz.prog) (src := 188) (dst := 9) Tryz.underlying188 Tryz.underlying5 Tryz.underlying9 (mid_nil wr w.heap.size 5)
    have H := Hy (An hb hinv.symm)
    clear hb hown hinv
    go_wp2
    go_ret2
    exact ⟨by rw [H.out.2]; rfl, H.out.1⟩
   ·have hmid := mid_owns hown
    subst hv
    have hmt := mid_take hmid n hn
    have hcv := conv_mid (P := Tryz.prog) (src := 188) (dst := 9) Tryz.underlying188 Tryz.underlying5 Tryz.underlying9 hmt
    have hnc' : (n : Int) <= (cap : Int) := by omega
    have H := Hy (An hb hinv.symm)
    clear hb hown hinv hmid hmt hg htk hcs
    go_wp2
    go_ret2
    exact ⟨by rw [H.out.2]; rfl, H.out.1⟩
theorem cut1_len (c : UInt8) (l : List UInt8) : (cut1 c l).length <= l.length := (List.takeWhile_sublist _).length_le
theorem cut2_len (c : UInt8) (l : List UInt8) : (cut2 c l).length <= l.length := by
 unfold cut2
 rw [List.length_drop]
 have := (List.dropWhile_sublist (· != c) (l := l)).length_le
 omega
def RpV : Option Av -> Value
 | none => .tuple #[.agg #[.string ⟨#[]⟩, .string ⟨#[]⟩], .bool false]
 | some p => .tuple #[.agg #[.string ⟨p.1.toArray⟩, .string ⟨p.2.toArray⟩], .bool true]
def RpPost (o : Option Av) (w : World) (en : Ending) (w' : World) : Prop := en = .returned (RpV o) /\ Below w.heap.size w w'
theorem obj_set2 {w : World} {g : Nat} {a b : Value} {t : TypeId} (h : w.heap[g]? = some (.cells #[a, b] t (0, 0))) (a' b' : Value) : ((w.setCell ⟨g, 0, none⟩ a').setCell ⟨g, 1, none⟩ b').heap[g]? = some (.cells #[a', b'] t (0, 0)) :=
 obj_set (obj_set h 0 a') 1 b'
theorem obj2 {w : World} {g : Nat} {a b : Value} {t : TypeId} (h : w.heap[g]? = some (.cells #[a, b] t (0, 0))) : w.cell? ⟨g, 0, none⟩ = some a /\ w.cell? ⟨g, 1, none⟩ = some b := ⟨obj_cell h 0 a rfl, obj_cell h 1 b rfl⟩
theorem below_set2 {B : Nat} {a w : World} (h : Below B a w) {g : Nat} (hg : B <= g) (x y : Value) : Below B a ((w.setCell ⟨g, 0, none⟩ x).setCell ⟨g, 1, none⟩ y) :=
 (h.setCell (p := ⟨g, 0, none⟩) hg x).setCell (p := ⟨g, 1, none⟩) hg y
theorem dpair_any (s : ByteArray) (hs : s.size <= 140737488355328) (w : World) (he : ErrOk w) :
  Calls Tryz.prog 149 #[.string s] w (RpPost (rpL s.data.toList) w) := by
 have HC := Hy (scut_any s hs)
 obtain ⟨A, hA⟩ : ∃ A, cut1 61 s.data.toList = A := ⟨_, rfl⟩
 obtain ⟨B, hB⟩ : ∃ B, cut2 61 s.data.toList = B := ⟨_, rfl⟩
 have hAl : A.length <= 140737488355328 := by rw [<- hA]; have := cut1_len 61 s.data.toList; rw [len_list] at this; omega
 have hBl : B.length <= 140737488355328 := by rw [<- hB]; have := cut2_len 61 s.data.toList; rw [len_list] at this; omega
 change Hid (∀ w, Calls Tryz.prog _ _ w fun en w' => (∃ b, en = .returned (.tuple #[.string ⟨(cut1 61 s.data.toList).toArray⟩, .string ⟨(cut2 61 s.data.toList).toArray⟩, .bool b])) /\ Below w.heap.size w w') at HC
 rw [hA, hB] at HC
 have HT := Hy (trim32_any ⟨A.toArray⟩ (show A.length <= _ from hAl))
 obtain ⟨T, hT⟩ : ∃ T, tlB (trB A) = T := ⟨_, rfl⟩
 change Hid (∀ w, Calls Tryz.prog _ _ w (StrPost (tlB (trB A)) w)) at HT
 rw [hT] at HT
 have HY := Hy (dtype_any ⟨T.toArray⟩)
 change Hid (∀ w, Calls Tryz.prog _ _ w (PureB (tyL T) w)) at HY
 have HV := Hy (fun w he => dvalue_any ⟨B.toArray⟩ (show B.length <= _ from hBl) w he)
 change Hid (∀ w, ErrOk w -> Calls Tryz.prog _ _ w (RvPost (rvL B) w)) at HV
 have hrp : rpL s.data.toList = rpJ (tyL T) T (rvL B) := by unfold rpL; rw [hA, hB, hT]
 have HE := Hy he
 rw [hrp]
 obtain ⟨W1, hW1⟩ : ∃ W1, w.alloc (.cells #[.string ⟨#[]⟩, .string ⟨#[]⟩] 97) = W1 := ⟨_, rfl⟩
 have hbox : W1.heap[w.heap.size]? = some (.cells #[.string ⟨#[]⟩, .string ⟨#[]⟩] 97 (0, 0)) := by rw [<- hW1]; exact heap_alloc_new w _
 have hbW : Below w.heap.size w W1 := by rw [<- hW1]; exact (Below.refl _ w).alloc (Nat.le_refl _) _
 have HW := Hy (An hbox hbW)
 clear hA hB hT hrp hAl hBl hs he hbox hbW
 obtain ⟨ty, hty⟩ : ∃ ty, tyL T = ty := ⟨_, rfl⟩
 rw [hty] at HY ⊢
 clear hty
 cases ty with
 | false =>
  go_enter Tryz.func149, Tryz.ntmps149
  go_wp2_with fail
  refine (HC.out _).mono ?_
  rintro e w2 ⟨⟨b, rfl⟩, hb2⟩
  go_wp2_with fail
  refine (HT.out _).mono ?_
  rintro e w3 ⟨rfl, hb3⟩
  go_wp2_with fail
  refine (HY.out _).mono ?_
  rintro e w4 ⟨rfl, hw⟩
  obtain rfl := hw.symm
  have hb5 : Below W1.heap.size W1 w3 := hb2.trans (hb3.mono hb2.size)
  have hbx := obj_below HW.out.1 hb5 (obj_lt HW.out.1)
  obtain ⟨b0, b1⟩ := obj2 hbx
  have f0 := obj_free hbx 0
  have f1 := obj_free hbx 1
  have HF := Hy (An (HW.out.2.trans (hb5.mono HW.out.2.size)) (obj_set2 hbx (.string ⟨#[]⟩) (.string ⟨#[]⟩)))
  clear hb5 hbx
  go_wp2
  obtain ⟨g0, g1⟩ := obj2 HF.out.2
  refine bodyPost_ret (v := RpV (none)) (by simp [results, Tryz.results149, go_sem, RpV, *]) rfl ⟨?_, below_set2 HF.out.1 (Nat.le_refl _) _ _⟩
  rfl
 | true =>
  obtain ⟨o, ho⟩ : ∃ o, rvL B = o := ⟨_, rfl⟩
  rw [ho] at HV ⊢
  clear ho
  go_enter Tryz.func149, Tryz.ntmps149
  go_wp2_with fail
  refine (HC.out _).mono ?_
  rintro e w2 ⟨⟨b, rfl⟩, hb2⟩
  go_wp2_with fail
  refine (HT.out _).mono ?_
  rintro e w3 ⟨rfl, hb3⟩
  go_wp2_with fail
  refine (HY.out _).mono ?_
  rintro e w4 ⟨rfl, hw⟩
  obtain rfl := hw.symm
  have hb5 : Below W1.heap.size W1 w3 := hb2.trans (hb3.mono hb2.size)
  have HVV := Hy (HV.out w3 (errOk_below HE.out (show Below w.heap.size w w3 from HW.out.2.trans (hb5.mono HW.out.2.size))))
  have H5 := Hy hb5
  clear hb2 hb3 hb5
  cases o with
  | none =>
   change Hid (Calls Tryz.prog _ _ w3 fun en w' => en = .returned (.tuple #[.string ⟨#[]⟩, .bool false]) /\ Below w3.heap.size w3 w') at HVV
   go_wp2_with fail
   refine HVV.out.mono ?_
   rintro e w6 ⟨rfl, hb6⟩
   have hb5 : Below W1.heap.size W1 w6 := H5.out.trans (hb6.mono H5.out.size)
   have hbx := obj_below HW.out.1 hb5 (obj_lt HW.out.1)
   clear hb6
   obtain ⟨b0, b1⟩ := obj2 hbx
   have f0 := obj_free hbx 0
   have f1 := obj_free hbx 1
   have HF := Hy (An (HW.out.2.trans (hb5.mono HW.out.2.size)) (obj_set2 hbx (.string ⟨#[]⟩) (.string ⟨#[]⟩)))
   clear hb5 hbx
   go_wp2
   obtain ⟨g0, g1⟩ := obj2 HF.out.2
   refine bodyPost_ret (v := RpV (none)) (by simp [results, Tryz.results149, go_sem, RpV, *]) rfl ⟨?_, below_set2 HF.out.1 (Nat.le_refl _) _ _⟩
   rfl
  | some v =>
   change Hid (Calls Tryz.prog _ _ w3 fun en w' => en = .returned (.tuple #[.string ⟨v.toArray⟩, .bool true]) /\ Below w3.heap.size w3 w') at HVV
   by_cases hv : v = []
   ·have hem : v.isEmpty = true := by rw [hv]; rfl
    have HR := Hy (show rpJ true T (some v) = none by rw [rpJ, if_pos rfl]; show (if v = [] then none else some (T, v)) = none; rw [if_pos hv])
    clear hv
    go_wp2_with fail
    refine HVV.out.mono ?_
    rintro e w6 ⟨rfl, hb6⟩
    have hb5 : Below W1.heap.size W1 w6 := H5.out.trans (hb6.mono H5.out.size)
    have hbx := obj_below HW.out.1 hb5 (obj_lt HW.out.1)
    clear hb6
    obtain ⟨b0, b1⟩ := obj2 hbx
    have f0 := obj_free hbx 0
    have f1 := obj_free hbx 1
    have HF := Hy (An (HW.out.2.trans (hb5.mono HW.out.2.size)) (obj_set2 hbx (.string ⟨#[]⟩) (.string ⟨#[]⟩)))
    clear hb5 hbx
    go_wp2
    obtain ⟨g0, g1⟩ := obj2 HF.out.2
    refine bodyPost_ret (v := RpV (none)) (by simp [results, Tryz.results149, go_sem, RpV, *]) rfl ⟨?_, below_set2 HF.out.1 (Nat.le_refl _) _ _⟩
    rw [HR.out]
   ·have hem : v.isEmpty = false := by cases v <;> simp_all
    have HR := Hy (show rpJ true T (some v) = some (T, v) by rw [rpJ, if_pos rfl]; show (if v = [] then none else some (T, v)) = some (T, v); rw [if_neg hv])
    clear hv
    go_wp2_with fail
    refine HVV.out.mono ?_
    rintro e w6 ⟨rfl, hb6⟩
    have hb5 : Below W1.heap.size W1 w6 := H5.out.trans (hb6.mono H5.out.size)
    have hbx := obj_below HW.out.1 hb5 (obj_lt HW.out.1)
    clear hb6
    obtain ⟨b0, b1⟩ := obj2 hbx
    have f0 := obj_free hbx 0
    have f1 := obj_free hbx 1
    have HF := Hy (An (HW.out.2.trans (hb5.mono HW.out.2.size)) (obj_set2 hbx (.string ⟨T.toArray⟩) (.string ⟨v.toArray⟩)))
    clear hb5 hbx
    go_wp2
    obtain ⟨g0, g1⟩ := obj2 HF.out.2
    refine bodyPost_ret (v := RpV (some (T, v))) (by simp [results, Tryz.results149, go_sem, RpV, *]) rfl ⟨?_, below_set2 HF.out.1 (Nat.le_refl _) _ _⟩
    rw [HR.out]
def avc (r : List Av) : List Value := r.flatMap fun p => [.string ⟨p.1.toArray⟩, .string ⟨p.2.toArray⟩]
theorem avc_cons (p : Av) (r : List Av) : avc (p :: r) = .string ⟨p.1.toArray⟩ :: .string ⟨p.2.toArray⟩ :: avc r := rfl
theorem avc_len (r : List Av) : (avc r).length = 2 * r.length := by
 induction r with
 | nil => rfl
 | cons p r ih => rw [avc_cons, List.length_cons, List.length_cons, List.length_cons, ih]; omega
theorem avc_at (r : List Av) (j : Nat) (h : j < r.length) : (avc r)[j * 2]? = some (.string ⟨r[j].1.toArray⟩) /\ (avc r)[j * 2 + 1]? = some (.string ⟨r[j].2.toArray⟩) := by
 induction r generalizing j with
 | nil => simp at h
 | cons p r ih =>
  cases j with
  | zero => simp [avc_cons]
  | succ j =>
   have := ih j (by simpa using h)
   rw [avc_cons, show (j + 1) * 2 = j * 2 + 2 by omega, show j * 2 + 2 + 1 = j * 2 + 1 + 2 by omega]
   simpa using this
theorem avc_set (r : List Av) (j : Nat) (h : j < r.length) (p : Av) : ((avc r).set (j * 2) (.string ⟨p.1.toArray⟩)).set (j * 2 + 1) (.string ⟨p.2.toArray⟩) = avc (r.set j p) := by
 induction r generalizing j with
 | nil => simp at h
 | cons q r ih =>
  cases j with
  | zero => simp [avc_cons]
  | succ j =>
   have := ih j (by simpa using h)
   rw [avc_cons, show (j + 1) * 2 = j * 2 + 2 by omega, show j * 2 + 2 + 1 = j * 2 + 1 + 2 by omega, List.set_cons_succ, List.set_cons_succ, List.set_cons_succ, List.set_cons_succ, List.set_cons_succ, avc_cons, this]
theorem avc_arr (r : List Av) (j : Nat) (h : j < r.length) (p : Av) : ((avc r).toArray.setIfInBounds (j * 2) (.string ⟨p.1.toArray⟩)).setIfInBounds (j * 2 + 1) (.string ⟨p.2.toArray⟩) = (avc (r.set j p)).toArray := by
 rw [<- avc_set r j h p]; simp
def rowV (g n : Nat) : Value := .slice (some ⟨g, 0, none⟩) n n
def ovc (gs : List Nat) (D : List (List Av)) : List Value := List.zipWith (fun g r => rowV g r.length) gs D
theorem ovc_len (gs : List Nat) (D : List (List Av)) (h : gs.length = D.length) : (ovc gs D).length = D.length := by simp [ovc, h]
theorem ovc_at (gs : List Nat) (D : List (List Av)) (i : Nat) (h : i < gs.length) (h' : i < D.length) : (ovc gs D)[i]? = some (rowV gs[i] D[i].length) := by
 rw [ovc, List.getElem?_zipWith, List.getElem?_eq_getElem h, List.getElem?_eq_getElem h']
theorem ovc_snoc (gs : List Nat) (D : List (List Av)) (g : Nat) (r : List Av) (h : gs.length = D.length) : ovc (gs ++ [g]) (D ++ [r]) = ovc gs D ++ [rowV g r.length] := by
 unfold ovc
 rw [List.zipWith_append h]; rfl
theorem ovc_set (gs : List Nat) (D : List (List Av)) (k : Nat) (r : List Av) (hk : k < D.length) (hr : r.length = D[k].length) : ovc gs (D.set k r) = ovc gs D := by
 unfold ovc
 apply List.ext_getElem?
 intro i
 simp only [List.getElem?_zipWith]
 by_cases hi : i = k
 ·subst hi
  cases gs[i]? with
  | none => rfl
  | some g => simp [hk, hr]
 ·rw [List.getElem?_set_ne (fun e => hi e.symm)]
structure DnBlk (w : World) (B : Nat) (g : Nat) (gs : List Nat) (D : List (List Av)) (m : Nat) (e1 e2 : TypeId) : Prop where
 base : B <= g
 len : gs.length = D.length
 outer : w.heap[g]? = some (.cells (ovc gs D ++ List.replicate m (Value.slice none 0 0)).toArray e2 (0, 0))
 rows : ∀ i (h : i < gs.length) (h' : i < D.length), B <= gs[i] /\ gs[i] ≠ g /\ w.heap[gs[i]]? = some (.cells (avc D[i]).toArray e1 (0, 0))
 nodup : gs.Nodup
theorem blk_below {w w' : World} {B g : Nat} {gs : List Nat} {D : List (List Av)} {m : Nat} {e1 e2 : TypeId} (h : DnBlk w B g gs D m e1 e2) (hb : Below w.heap.size w w') : DnBlk w' B g gs D m e1 e2 :=
 ⟨h.base, h.len, obj_below h.outer hb (obj_lt h.outer), fun i hi hi' => ⟨(h.rows i hi hi').1, (h.rows i hi hi').2.1, obj_below (h.rows i hi hi').2.2 hb (obj_lt (h.rows i hi hi').2.2)⟩, h.nodup⟩
theorem blk_heap {w w' : World} {B g : Nat} {gs : List Nat} {D : List (List Av)} {m : Nat} {e1 e2 : TypeId} (h : DnBlk w B g gs D m e1 e2) (hh : w'.heap = w.heap) : DnBlk w' B g gs D m e1 e2 :=
 ⟨h.base, h.len, by rw [hh]; exact h.outer, fun i hi hi' => by rw [hh]; exact h.rows i hi hi', h.nodup⟩
theorem blk_row {w : World} {B g : Nat} {gs : List Nat} {D : List (List Av)} {m : Nat} {e1 e2 : TypeId} (h : DnBlk w B g gs D (m + 1) e1 e2) (hB : B <= w.heap.size) (r : List Av) (M : Array Value) (hM : M = (avc r).toArray) :
  DnBlk ((w.alloc (.cells M e1)).setCell ⟨g, D.length, none⟩ (rowV w.heap.size r.length)) B g (gs ++ [w.heap.size]) (D ++ [r]) m e1 e2 := by
 subst hM
 have hg := obj_lt h.outer
 refine ⟨h.base, by simp [h.len], ?_, ?_, ?_⟩
 ·have h1 := obj_set (obj_alloc h.outer (.cells (avc r).toArray e1)) D.length (rowV w.heap.size r.length)
  rw [h1]
  congr 2
  rw [ovc_snoc gs D _ _ h.len]
  apply Array.ext'
  simp only [Array.toList_setIfInBounds, List.toList_toArray]
  have hl := ovc_len gs D h.len
  rw [List.set_append_right _ _ (by omega), hl, Nat.sub_self, List.replicate_succ, List.set_cons_zero, List.append_assoc]
  rfl
 ·intro i hi hi'
  by_cases hlt : i < D.length
  ·have hlt' : i < gs.length := by rw [h.len]; exact hlt
   obtain ⟨a, b, c⟩ := h.rows i hlt' hlt
   rw [List.getElem_append_left hlt', List.getElem_append_left hlt]
   exact ⟨a, b, obj_set_other (obj_alloc c _) (p := ⟨g, D.length, none⟩) b _⟩
  ·have hi2 : i = D.length := by simp at hi'; omega
   subst hi2
   have e1' : (gs ++ [w.heap.size])[D.length]'hi = w.heap.size := by simp [<- h.len]
   have e2' : (D ++ [r])[D.length]'hi' = r := by simp
   rw [e1', e2']
   exact ⟨hB, by omega, obj_set_other (heap_alloc_new w _) (p := ⟨g, D.length, none⟩) (by show w.heap.size ≠ g; omega) _⟩
 ·rw [List.nodup_append]
  refine ⟨h.nodup, by simp, ?_⟩
  intro a ha b hb
  obtain rfl := List.mem_singleton.1 hb
  obtain ⟨i, hi, rfl⟩ := List.mem_iff_getElem.1 ha
  have := obj_lt (h.rows i hi (by rw [<- h.len]; exact hi)).2.2
  omega
theorem blk_set {w : World} {B g : Nat} {gs : List Nat} {D : List (List Av)} {m : Nat} {e1 e2 : TypeId} (h : DnBlk w B g gs D m e1 e2) (k : Nat) (hk : k < gs.length) (hk' : k < D.length) (j : Nat) (hj : j < D[k].length) (p : Av) :
  DnBlk ((w.setCell ⟨gs[k], j * 2, none⟩ (.string ⟨p.1.toArray⟩)).setCell ⟨gs[k], j * 2 + 1, none⟩ (.string ⟨p.2.toArray⟩)) B g gs (D.set k (D[k].set j p)) m e1 e2 := by
 obtain ⟨a, b, c⟩ := h.rows k hk hk'
 refine ⟨h.base, by simp [h.len], ?_, ?_, h.nodup⟩
 ·rw [ovc_set gs D k _ hk' (by simp)]
  exact obj_set_other (obj_set_other h.outer (p := ⟨gs[k], j * 2, none⟩) (fun e => b e.symm) _) (p := ⟨gs[k], j * 2 + 1, none⟩) (fun e => b e.symm) _
 ·intro i hi hi'
  have hi2 : i < D.length := by simpa using hi'
  obtain ⟨a', b', c'⟩ := h.rows i hi hi2
  refine ⟨a', b', ?_⟩
  by_cases hik : i = k
  ·subst hik
   have e : (D.set i (D[i].set j p))[i]'hi' = D[i].set j p := by simp
   rw [e, <- avc_arr D[i] j hj p]
   exact obj_set (obj_set c' (j * 2) _) (j * 2 + 1) _
  ·have e : (D.set k (D[k].set j p))[i]'hi' = D[i] := List.getElem_set_ne (fun e => hik e.symm) _
   have hne : gs[i] ≠ gs[k] := fun e => hik ((List.getElem_inj h.nodup).1 e)
   rw [e]
   exact obj_set_other (obj_set_other c' (p := ⟨gs[k], j * 2, none⟩) hne _) (p := ⟨gs[k], j * 2 + 1, none⟩) hne _
theorem avAt_blk {w : World} {g : Nat} {r : List Av} {e : TypeId} (h : w.heap[g]? = some (.cells (avc r).toArray e (0, 0))) : AvAt w (rowV g r.length) r := by
 refine ⟨_, _, rfl, Nat.le_refl _, fun i hi => ⟨g, 0, rfl, obj_lt h, ?_, ?_⟩⟩
 ·rw [Nat.zero_add]; exact obj_cell h (i * 2) _ (by simpa using (avc_at r i hi).1)
 ·rw [Nat.zero_add]; exact obj_cell h (i * 2 + 1) _ (by simpa using (avc_at r i hi).2)
theorem dnAt_blk {w : World} {B g : Nat} {gs : List Nat} {D : List (List Av)} {e1 e2 : TypeId} (h : DnBlk w B g gs D 0 e1 e2) : DnAt w (rowV g D.length) D := by
 refine ⟨_, _, rfl, Nat.le_refl _, fun i hi => ?_⟩
 have hi' : i < gs.length := by rw [h.len]; exact hi
 refine ⟨g, 0, rowV gs[i] D[i].length, rfl, obj_lt h.outer, ?_, avAt_blk (h.rows i hi' hi).2.2⟩
 rw [Nat.zero_add]
 exact obj_cell h.outer i _ (by simpa using ovc_at gs D i hi' hi)
def GridR (w : World) (v : Value) (ps : List (List (List UInt8))) : Prop :=
 ∃ a c, v = .slice a ps.length c /\ ∀ i (h : i < ps.length), ∃ g u, a = some ⟨g, 0, none⟩ /\ g < w.heap.size /\ w.cell? ⟨g, i, none⟩ = some u /\ StrU w u ps[i]
theorem gridR_of {w : World} {B : Nat} {e2 e : TypeId} {v : Value} {vs : List Value} {ps : List (List (List UInt8))} (h : GridV w B e2 e v vs ps) : GridR w v ps := by
 rcases h.2.1.2 with ⟨rfl, h0⟩ | ⟨g, cap, cur, hv, _, hg, _⟩
 ·exact ⟨none, 0, by rw [h0], fun i hi => by omega⟩
 ·subst hv
  refine ⟨_, cap, rfl, fun i hi => ?_⟩
  have hi' : i < vs.length := by rw [h.1]; exact hi
  refine ⟨g, vs[i], rfl, obj_lt hg, ?_, strU_owns (h.2.2 i hi hi').1⟩
  rw [h.2.1.cellAt i (by omega)]
  exact List.getElem?_eq_getElem hi'
theorem Tryz.dninfo97 : (Tryz.prog.info? 97).map (fun i => (i.zero, i.size, i.bytes)) = some (some (.agg #[.string ByteArray.empty, .string ByteArray.empty]), 2, 32) := by kernel_rfl
theorem Tryz.dninfo95 : (Tryz.prog.info? 95).map (fun i => (i.zero, i.size, i.bytes)) = some (some (.slice none 0 0), 1, 24) := by kernel_rfl
def noAv : Av := ([], [])
theorem made_two (n : Nat) : madeCells #[Value.string ByteArray.empty, Value.string ByteArray.empty] (n * 2) = (avc (List.replicate n noAv)).toArray := by
 have hz : ∀ l : List Nat, l.map (fun k => (#[Value.string ByteArray.empty, Value.string ByteArray.empty] : Array Value)[k % 2]!) = List.replicate l.length (Value.string ByteArray.empty) := by
  intro l
  induction l with
  | nil => rfl
  | cons k r ih =>
   rw [List.map_cons, ih, List.length_cons, List.replicate_succ]
   congr 1
   have : k % 2 = 0 \/ k % 2 = 1 := by omega
   rcases this with h | h <;> rw [h] <;> rfl
 have h2 : avc (List.replicate n noAv) = List.replicate (n * 2) (Value.string ByteArray.empty) := by
  induction n with
  | zero => rfl
  | succ n ih => rw [List.replicate_succ, avc_cons, ih, show (n + 1) * 2 = n * 2 + 1 + 1 by omega, List.replicate_succ, List.replicate_succ]; rfl
 apply Array.ext'
 rw [List.toList_toArray, h2]
 unfold madeCells
 rw [Array.toList_map, Array.toList_range]
 have := hz (List.range (n * 2))
 rw [List.length_range] at this
 exact this
theorem made_dn (n : Nat) (W : World) (hn : n <= 1000000) : (Instr.makeSlice 91 (.int .i64 (n : Int)) (.int .i64 (n : Int))).run Tryz.prog W = .ok (.slice (some ⟨W.heap.size, 0, none⟩) n n) (W.alloc (.cells (List.replicate n (Value.slice none 0 0)).toArray 95)) := by
 obtain ⟨i0, hi, hz0, hz1, hz2⟩ := info_parts Tryz.dninfo95
 have h := run_make (P := Tryz.prog) W 91 95 i0 (.slice none 0 0) Tryz.underlying91 hi hz0 .i64 .i64 (n : Int) (n : Int) (by omega) (by omega) (by rw [hz2]; omega) (by omega)
 have e : madeCells (Value.slice none 0 0).cells ((n : Int).toNat * i0.size) = (List.replicate n (Value.slice none 0 0)).toArray := by
  apply Array.ext'
  rw [hz1, show (n : Int).toNat * 1 = n by omega]
  exact (toList_madeCells_one _ n).trans (by simp)
 rw [e] at h
 simpa using h
theorem made_rdn (n : Nat) (W : World) (hn : n <= 1000000) : (Instr.makeSlice 95 (.int .i64 (n : Int)) (.int .i64 (n : Int))).run Tryz.prog W = .ok (.slice (some ⟨W.heap.size, 0, none⟩) n n) (W.alloc (.cells (avc (List.replicate n noAv)).toArray 97)) := by
 obtain ⟨i0, hi, hz0, hz1, hz2⟩ := info_parts Tryz.dninfo97
 have h := run_make (P := Tryz.prog) W 95 97 i0 (.agg #[.string ByteArray.empty, .string ByteArray.empty]) Tryz.underlying95 hi hz0 .i64 .i64 (n : Int) (n : Int) (by omega) (by omega) (by rw [hz2]; omega) (by omega)
 have e : madeCells (Value.agg #[.string ByteArray.empty, .string ByteArray.empty]).cells ((n : Int).toNat * i0.size) = (avc (List.replicate n noAv)).toArray := by
  rw [hz1, show (n : Int).toNat * 2 = n * 2 by omega]; exact made_two n
 rw [e] at h
 simpa using h
theorem rps_none (l : List (List UInt8)) (j : Nat) (h : j < l.length) (hp : rpL l[j] = none) : rpsL (l.drop j) = none := by rw [drop_at l j h, rpsL, hp]
theorem rps_some (l : List (List UInt8)) (j : Nat) (h : j < l.length) {p : Av} (hp : rpL l[j] = some p) : rpsL (l.drop j) = (rpsL (l.drop (j + 1))).map (p :: ·) := by rw [drop_at l j h, rpsL, hp]
theorem rpp_none (l : List (List (List UInt8))) (j : Nat) (h : j < l.length) (hp : rpsL l[j] = none) : rpp (l.drop j) = none := by rw [drop_at l j h, rpp, hp]
theorem rpp_some (l : List (List (List UInt8))) (j : Nat) (h : j < l.length) {p : List Av} (hp : rpsL l[j] = some p) : rpp (l.drop j) = (rpp (l.drop (j + 1))).map (p :: ·) := by rw [drop_at l j h, rpp, hp]
theorem take_set {α : Type} (R : List α) (j : Nat) (h : j < R.length) (q : α) : (R.set j q).take (j + 1) = R.take j ++ [q] := by
 rw [List.take_succ_eq_append_getElem (by simpa using h), List.take_set, List.set_eq_of_length_le (by rw [List.length_take]; omega)]
 simp
def RppPost (o : Option (List (List Av))) (e1 e2 : TypeId) (w : World) (en : Ending) (w' : World) : Prop :=
 match o with
 | none => en = .returned (.tuple #[.slice none 0 0, .bool false]) /\ Below w.heap.size w w'
 | some D => ∃ g gs, en = .returned (.tuple #[rowV g D.length, .bool true]) /\ DnBlk w' w.heap.size g gs D 0 e1 e2 /\ Below w.heap.size w w'
theorem rppPost_none {o : Option (List (List Av))} {e1 e2 : TypeId} {w w' : World} (h : o = none) (hb : Below w.heap.size w w') : RppPost o e1 e2 w (.returned (.tuple #[.slice none 0 0, .bool false])) w' := by subst h; exact ⟨rfl, hb⟩
theorem rppPost_some {o : Option (List (List Av))} {D : List (List Av)} {e1 e2 : TypeId} {w w' : World} {g : Nat} {gs : List Nat} (h : o = some D) (hd : DnBlk w' w.heap.size g gs D 0 e1 e2) (hb : Below w.heap.size w w') : RppPost o e1 e2 w (.returned (.tuple #[rowV g D.length, .bool true])) w' := by
 subst h; exact ⟨g, gs, rfl, hd, hb⟩
theorem dparts_any (v : Value) (ps : List (List (List UInt8))) (w : World) (h : GridR w v ps) (he : ErrOk w) (hn : ps.length <= 100000) (hk : ∀ p ∈ ps, p.length <= 100000) (hx : ∀ p ∈ ps, ∀ x ∈ p, x.length <= 100000) :
  Calls Tryz.prog 94 #[v] w (RppPost (rpp ps) 97 95 w) := by
 obtain ⟨a, c, hv, hcells⟩ := id h
 subst hv
 have HH := Hy (An hcells (An he (An hk hx)))
 have hmk := fun W => made_dn ps.length W (by omega)
 obtain ⟨n, hnn⟩ : ∃ n, ps.length = n := ⟨_, rfl⟩
 rw [hnn] at hmk hn ⊢
 obtain ⟨M, hM⟩ : ∃ M, (List.replicate n (Value.slice none 0 0)).toArray = M := ⟨_, rfl⟩
 rw [hM] at hmk
 obtain ⟨W1, hW1⟩ : ∃ W1, w.alloc (.cells M 95) = W1 := ⟨_, rfl⟩
 have hblk0 : DnBlk W1 w.heap.size w.heap.size [] [] n 97 95 := ⟨Nat.le_refl _, rfl, by rw [<- hW1, <- hM]; exact heap_alloc_new w _, fun i h => by simp at h, List.nodup_nil⟩
 have hb0 : Below w.heap.size w W1 := by rw [<- hW1]; exact (Below.refl _ w).alloc (Nat.le_refl _) _
 have HB0 := Hy (An hblk0 hb0)
 clear hcells he hk hx hblk0 hb0 h hM
 go_enter Tryz.func94, Tryz.ntmps94
 go_wp2
 go_loopw [16] (fun v wr => ∃ (i : Nat) (gs : List Nat) (D : List (List Av)) (m : Nat), i + m = n /\ v = .int .i64 (i : Nat) /\ D.length = i /\ DnBlk wr w.heap.size w.heap.size gs D m 97 95 /\ Below w.heap.size w wr /\ rpp ps = (rpp (ps.drop i)).map (D ++ ·)) (fun v _ => n - (intOf v).toNat)
 case atStart => exact ⟨0, [], [], n, by omega, rfl, rfl, HB0.out.1, HB0.out.2, by simp⟩
 case round =>
  obtain ⟨i, gs, D, m, him, rfl, hD, hblk, hb, hinv⟩ := hrel
  by_cases hlt : i < n
  ·obtain ⟨m', rfl⟩ : ∃ m', m = m' + 1 := ⟨m - 1, by omega⟩
   obtain ⟨g, u, rfl, hg, c1w, hu⟩ := HH.out.1 i (by omega)
   have c1 := (hb.cell (p := ⟨g, i, none⟩) hg).trans c1w
   have hil : (i : Int) < (n : Int) := by omega
   have hmem : ps[i]'(by omega) ∈ ps := List.getElem_mem (by omega)
   have hkp := HH.out.2.2.1 _ hmem
   have hxp := HH.out.2.2.2 _ hmem
   obtain ⟨p, hp⟩ : ∃ p, ps[i]'(by omega) = p := ⟨_, rfl⟩
   rw [hp] at hu hkp hxp
   obtain ⟨ua, uc, hu1, hucells⟩ := id hu
   subst hu1
   have hmk2 := fun W => made_rdn p.length W (by omega)
   obtain ⟨k, hkk⟩ : ∃ k, p.length = k := ⟨_, rfl⟩
   rw [hkk] at hmk2 hkp
   obtain ⟨M2, hM2⟩ : ∃ M2, (avc (List.replicate k noAv)).toArray = M2 := ⟨_, rfl⟩
   rw [hM2] at hmk2
   obtain ⟨Wa, hWa⟩ : ∃ Wa, wr.alloc (.cells M2 97) = Wa := ⟨_, rfl⟩
   have hblkA := blk_row hblk hb.size (List.replicate k noAv) M2 hM2.symm
   rw [List.length_replicate, hWa, hD] at hblkA
   have hoA := obj_alloc hblk.outer (.cells M2 97)
   rw [hWa] at hoA
   have k1 : Wa.cell? ⟨w.heap.size, i, none⟩ = some (.slice none 0 0) := obj_cell hoA i _ (by
    have hl := ovc_len gs D hblk.len
    simp only [List.getElem?_toArray]
    rw [List.getElem?_append_right (by omega), hl, hD, Nat.sub_self, List.replicate_succ]; rfl)
   have k2 : Wa.frozen? ⟨w.heap.size, i, none⟩ = false := obj_free hoA i
   have HA := Hy (An hblkA (An hb (An hinv (An hu (An hxp (An hkk (An hp c1w)))))))
   clear hblk hb hinv hu hxp hucells hblkA hoA hmem c1w hp hM2
   obtain ⟨gi, hgi⟩ : ∃ gi, wr.heap.size = gi := ⟨_, rfl⟩
   rw [hgi] at HA
   obtain ⟨Wb, hWb⟩ : ∃ Wb, Wa.setCell ⟨w.heap.size, i, none⟩ (.slice (some ⟨gi, 0, none⟩) k k) = Wb := ⟨_, rfl⟩
   change Hid (DnBlk (Wa.setCell ⟨w.heap.size, i, none⟩ (.slice (some ⟨gi, 0, none⟩) k k)) _ _ _ _ _ _ _ /\ _) at HA
   rw [hWb] at HA
   have hbb : Below w.heap.size w Wb := by rw [<- hWb, <- hWa]; exact (HA.out.2.1.alloc HA.out.2.1.size _).setCell (p := ⟨w.heap.size, i, none⟩) (Nat.le_refl _) _
   have HBb := Hy hbb
   clear hbb
   go_wp2
   go_loopw [29] (fun v wr => ∃ (j : Nat) (R : List Av), j <= k /\ v = .int .i64 (j : Nat) /\ R.length = k /\ DnBlk wr w.heap.size w.heap.size (gs ++ [gi]) (D ++ [R]) m' 97 95 /\ Below w.heap.size w wr /\ rpsL p = (rpsL (p.drop j)).map (R.take j ++ ·)) (fun v _ => k - (intOf v).toNat)
   case atStart => exact ⟨0, List.replicate k noAv, by omega, rfl, by simp, HA.out.1, HBb.out, by simp⟩
   case round =>
    obtain ⟨j, R, hj, rfl, hR, hblk, hb, hinv⟩ := hrel
    by_cases hlj : j < k
    ·have hjk : (j : Int) < (k : Int) := by omega
     obtain ⟨ua', uc', hv, hucl⟩ := HA.out.2.2.2.1
     injection hv with hv1 hv2 hv3
     subst hv1 hv3
     obtain ⟨g2, rfl, hg2, e1w⟩ := hucl j (by omega)
     have e1 := (hb.cell (p := ⟨g2, j, none⟩) hg2).trans e1w
     have hxl := HA.out.2.2.2.2.1 _ (List.getElem_mem (show j < p.length by omega))
     have HN := Hy (rps_none p j (by omega))
     have HS := Hy (fun q => rps_some p j (by omega) (p := q))
     obtain ⟨x, hx⟩ : ∃ x, p[j]'(by omega) = x := ⟨_, rfl⟩
     rw [hx] at e1 hxl HN HS
     have HC := Hy (dpair_any ⟨x.toArray⟩ (by show x.length <= _; omega) wr (errOk_low HH.out.2.1 hb (Lib.lt_of_cell HH.out.2.1.choose_spec.1)))
     change Hid (Calls Tryz.prog _ _ wr (RpPost (rpL x) wr)) at HC
     have H := Hy (An hblk (An hb (An hinv hR)))
     clear hblk hb hinv hucl hxl hx e1w
     obtain ⟨o, ho⟩ : ∃ o, rpL x = o := ⟨_, rfl⟩
     rw [ho] at HC HN HS
     clear ho
     cases o with
     | none =>
      have HI := Hy (show rpp ps = none by
       rw [HA.out.2.2.1, rpp_none ps i (by omega) (by rw [HA.out.2.2.2.2.2.2.1, H.out.2.2.1, HN.out rfl]; rfl)]; rfl)
      change Hid (Calls Tryz.prog _ _ wr fun en w' => en = .returned (.tuple #[.agg #[.string ⟨#[]⟩, .string ⟨#[]⟩], .bool false]) /\ Below wr.heap.size wr w') at HC
      go_wp2_with fail
      refine HC.out.mono ?_
      rintro e w2 ⟨rfl, hb2⟩
      have HB2 := Hy (H.out.2.1.trans (hb2.mono H.out.2.1.size))
      clear hb2
      go_wp2
      go_ret2
      exact rppPost_none HI.out (HB2.out.alloc HB2.out.size _)
     | some q =>
      obtain ⟨T, V⟩ := q
      change Hid (Calls Tryz.prog _ _ wr fun en w' => en = .returned (.tuple #[.agg #[.string ⟨T.toArray⟩, .string ⟨V.toArray⟩], .bool true]) /\ Below wr.heap.size wr w') at HC
      go_wp2_with fail
      refine HC.out.mono ?_
      rintro e w2 ⟨rfl, hb2⟩
      obtain ⟨W3, hW3⟩ : ∃ W3, w2.alloc (.cells #[.string ⟨T.toArray⟩, .string ⟨V.toArray⟩] 97) = W3 := ⟨_, rfl⟩
      have hb3 : Below wr.heap.size wr W3 := by rw [<- hW3]; exact hb2.alloc hb2.size _
      have hbox : W3.heap[w2.heap.size]? = some (.cells #[.string ⟨T.toArray⟩, .string ⟨V.toArray⟩] 97 (0, 0)) := by rw [<- hW3]; exact heap_alloc_new w2 _
      have hbk := blk_below H.out.1 hb3
      obtain ⟨d1, d2⟩ := obj2 hbox
      have hlD : D.length < (D ++ [R]).length := by simp
      have hlG : D.length < (gs ++ [gi]).length := by rw [hbk.len]; exact hlD
      have hgs : (gs ++ [gi])[D.length]'hlG = gi := by
       have := HA.out.1.len
       simp at this
       simp [<- this]
      have hDR : (D ++ [R])[D.length]'hlD = R := by simp
      have hoc := ovc_at (gs ++ [gi]) (D ++ [R]) D.length hlG hlD
      rw [hgs, hDR, H.out.2.2.2] at hoc
      have d3 : W3.cell? ⟨w.heap.size, i, none⟩ = some (.slice (some ⟨gi, 0, none⟩) k k) := by
       refine obj_cell hbk.outer i _ ?_
       rw [<- hD]
       have hlen := ovc_len (gs ++ [gi]) (D ++ [R]) hbk.len
       simp only [List.getElem?_toArray]
       rw [List.getElem?_append_left (by rw [hlen]; exact hlD)]
       exact hoc
      have hrow := (hbk.rows D.length hlG hlD).2.2
      rw [hgs, hDR] at hrow
      have hRl : j < R.length := by rw [H.out.2.2.2]; exact hlj
      have a1 := obj_cell hrow (j * 2) _ (by simpa using (avc_at R j hRl).1)
      have a2 := obj_cell hrow (j * 2 + 1) _ (by simpa using (avc_at R j hRl).2)
      have a3 := obj_free hrow (j * 2)
      have a4 := obj_free hrow (j * 2 + 1)
      have hset := blk_set (blk_heap hbk (w' := W3.drew) rfl) D.length hlG hlD j (by rw [hDR]; exact hRl) (T, V)
      have hgB : w.heap.size <= gi := by have := (hbk.rows D.length hlG hlD).1; rwa [hgs] at this
      rw [hgs, hDR] at hset
      have hst : (D ++ [R]).set D.length (R.set j (T, V)) = D ++ [R.set j (T, V)] := by rw [List.set_append_right _ _ (Nat.le_refl _), Nat.sub_self]; rfl
      rw [hst] at hset
      have hi' : (i : Int) < (n : Int) := hil
      have HF := Hy (An hset (An (H.out.2.1.trans (hb3.mono H.out.2.1.size)) hgB))
      have HP := Hy hrow
      clear hb2 hb3 hbox hbk hlD hgs hDR hoc hrow hset hst
      go_wp2
      go_still_tail 7, (by kernel_rfl)
      change wpList _ _ _ _ _ W3.drew
      have a1' : W3.drew.cell? ⟨gi, j * 2, none⟩ = _ := a1
      have a2' : W3.drew.cell? ⟨gi, j * 2 + 1, none⟩ = _ := a2
      have a3' : W3.drew.frozen? ⟨gi, j * 2, none⟩ = false := a3
      have a4' : W3.drew.frozen? ⟨gi, j * 2 + 1, none⟩ = false := a4
      have hb9 : Below w.heap.size w W3.drew := HF.out.2.1.drew
      have HB9 := Hy ((hb9.setCell (p := ⟨gi, j * 2, none⟩) HF.out.2.2 (.string ⟨T.toArray⟩)).setCell (p := ⟨gi, j * 2 + 1, none⟩) HF.out.2.2 (.string ⟨V.toArray⟩))
      clear a1 a2 a3 a4 hb9
      obtain ⟨Wd, hWd⟩ : ∃ Wd, W3.drew = Wd := ⟨_, rfl⟩
      rw [hWd] at a1' a2' a3' a4' HF HB9 ⊢
      clear hWd
      go_wp2
      refine ⟨⟨j + 1, R.set j (T, V), by omega, by go_num, by simp [H.out.2.2.2], HF.out.1, HB9.out, ?_⟩, by simp [intOf]; omega⟩
      rw [H.out.2.2.1, HS.out _ rfl, Option.map_map]
      congr 1
      funext q
      simp only [Function.comp]
      rw [take_set R j hRl (T, V), List.append_assoc]
      rfl
    ·obtain rfl : j = k := by omega
     have hpk := hkk
     have hps : rpsL p = some R := by
      rw [hinv, List.drop_of_length_le (by omega), List.take_of_length_le (by omega)]; simp [rpsL]
     have HS := Hy (rpp_some ps i (by omega) (p := R))
     have h9 := HA.out.2.2.1
     rw [HS.out (by rw [HA.out.2.2.2.2.2.2.1]; exact hps), Option.map_map] at h9
     have H := Hy (An hblk (An hb (show rpp ps = (rpp (ps.drop (i + 1))).map ((D ++ [R]) ++ ·) by rw [h9]; congr 1; funext q; simp)))
     clear hblk hb hinv hps h9
     go_wp2
     refine ⟨⟨i + 1, gs ++ [gi], D ++ [R], m', by omega, by go_num, by simp [hD], H.out.1, H.out.2.1, H.out.2.2⟩, by simp [intOf]; omega⟩
  ·obtain rfl : m = 0 := by omega
   obtain rfl : i = n := by omega
   have hrp : rpp ps = some D := by rw [hinv, List.drop_of_length_le (by omega)]; simp [rpp]
   have H := Hy (An hrp (An hblk hb))
   clear hinv hblk hb hrp
   go_wp2
   go_ret2
   have h9 := rppPost_some H.out.1 H.out.2.1 H.out.2.2
   rw [hD] at h9
   exact h9
theorem dlong1_any (a : Option Addr) (n c : Nat) (w : World) : Calls Tryz.prog 151 #[.slice a n c] w (PureB (decide (8 < n)) w) := by
 go_enter Tryz.func151, Tryz.ntmps151
 go_wp2
 go_ret
 exact pureB_mk (by rw [Bool.eq_iff_iff]; simp only [decide_eq_true_eq]; omega)
theorem long_take (d : List (List Av)) (k : Nat) (h : k < d.length) (h1 : (d.take k).any (fun r => decide (8 < r.length)) = false) : (d.take (k + 1)).any (fun r => decide (8 < r.length)) = decide (8 < d[k].length) := by
 rw [any_take (fun r : List Av => decide (8 < r.length)) d k h, h1, Bool.false_or]
theorem dlongf_any (v : Value) (d : List (List Av)) (w : World) (h : DnAt w v d) (hr : d.length <= 9223372036854775807) :
  Calls Tryz.prog 195 #[v, .func (.func 151) #[] #[]] w
   (fun e w' => (∃ n : Int, e = .returned (.int .i64 n) /\ decide (n ≥ 0) = d.any fun r => decide (8 < r.length)) /\ w' = w) := by
 obtain ⟨a, c, rfl, hcap, h⟩ := h
 have HH := Hy h
 clear h
 go_enter Tryz.func195, Tryz.ntmps195
 go_wp2
 go_loop [8] (fun v => ∃ k : Nat, k <= d.length /\ v = .int .i64 (k : Nat) /\ (d.take k).any (fun r => decide (8 < r.length)) = false) (fun v => d.length - (intOf v).toNat)
 case atStart => exact ⟨0, by omega, rfl, rfl⟩
 case round =>
  obtain ⟨k, hk, rfl, hany⟩ := hrel
  by_cases hlt : k < d.length
  ·obtain ⟨g, o, u, rfl, hg, c1, hav⟩ := HH.out k hlt
   have hkl : (k : Int) < (d.length : Int) := by omega
   have hstep := long_take d k hlt hany
   obtain ⟨r, hr⟩ : ∃ r, d[k] = r := ⟨_, rfl⟩
   rw [hr] at hav hstep
   obtain ⟨ua, uc, hu, _, _⟩ := hav
   subst hu
   have HC := Hy (dlong1_any ua r.length uc)
   obtain ⟨q, hq⟩ : ∃ q, decide (8 < r.length) = q := ⟨_, rfl⟩
   rw [hq] at HC hstep
   have H := Hy hstep
   clear hany hstep hr hq
   cases q
   ·go_wp2_with fail
    refine (HC.out _).mono ?_
    rintro e w2 ⟨rfl, hw⟩
    obtain rfl := hw.symm
    go_wp2
    refine ⟨⟨k + 1, by omega, by go_num, H.out⟩, by simp [intOf]; omega⟩
   ·go_wp2_with fail
    refine (HC.out _).mono ?_
    rintro e w2 ⟨rfl, hw⟩
    obtain rfl := hw.symm
    go_wp2
    go_ret
    refine ⟨⟨k, rfl, ?_⟩, rfl⟩
    have h9 := H.out
    have h10 : (d.any fun r => decide (8 < r.length)) = true := by
     rw [List.any_eq_true] at h9 ⊢
     obtain ⟨x, hx, hp⟩ := h9
     exact ⟨x, List.mem_of_mem_take hx, hp⟩
    rw [h10]; simp
  ·obtain rfl : k = d.length := by omega
   rw [List.take_length] at hany
   have H := Hy hany
   clear hany
   go_wp2
   go_ret
   exact ⟨⟨-1, rfl, by rw [H.out]; rfl⟩, rfl⟩
theorem dlong_any (v : Value) (d : List (List Av)) (w : World) (h : DnAt w v d) (hr : d.length <= 9223372036854775807) :
  Calls Tryz.prog 96 #[v] w (PureB (lgD d) w) := by
 have HC := Hy (dlongf_any v d w h hr)
 obtain ⟨a, c, rfl, hcap, _⟩ := h
 by_cases h0 : 32 < d.length
 ·have H := Hy (show lgD d = true by simp only [lgD, Bool.or_eq_true, decide_eq_true_eq]; exact .inl h0)
  have h1 : (32 : Int) < (d.length : Int) := by omega
  clear h0
  go_enter Tryz.func96, Tryz.ntmps96
  go_wp2
  go_ret
  exact pureB_mk H.out
 ·have h1 : (d.length : Int) <= 32 := by omega
  have H := Hy (show lgD d = d.any fun r => decide (8 < r.length) by simp only [lgD]; rw [show decide (32 < d.length) = false by simp; omega]; rfl)
  clear h0
  go_enter Tryz.func96, Tryz.ntmps96
  go_wp2_with fail
  go_in
  go_wp2_with fail
  refine HC.out.mono ?_
  rintro e w2 ⟨⟨n, rfl, hn⟩, hw⟩
  obtain rfl := hw.symm
  have HN := Hy hn
  clear hn
  go_wp2
  go_ret
  refine pureB_mk ?_
  rw [H.out, <- HN.out, show decide ((32 : Int) < (d.length : Int)) = false by simp; omega]
  rfl
def RdPost (p : List (List Av) × Nat) (e1 e2 : TypeId) (w : World) (en : Ending) (w' : World) : Prop :=
 (p.1 = [] /\ en = .returned (.tuple #[.slice none 0 0, .int .i64 (p.2 : Nat)]) /\ Below w.heap.size w w') \/
 (p.2 = 0 /\ ∃ g gs, en = .returned (.tuple #[rowV g p.1.length, .int .i64 0]) /\ DnBlk w' w.heap.size g gs p.1 0 e1 e2 /\ Below w.heap.size w w')
theorem rdPost_none {p : List (List Av) × Nat} {n : Nat} {e1 e2 : TypeId} {w w' : World} (h : p = ([], n)) (hb : Below w.heap.size w w') : RdPost p e1 e2 w (.returned (.tuple #[.slice none 0 0, .int .i64 (n : Nat)])) w' := by subst h; exact .inl ⟨rfl, rfl, hb⟩
theorem rdPost_some {p : List (List Av) × Nat} {D : List (List Av)} {e1 e2 : TypeId} {w w' : World} {g : Nat} {gs : List Nat} (h : p = (D, 0)) (hd : DnBlk w' w.heap.size g gs D 0 e1 e2) (hb : Below w.heap.size w w') : RdPost p e1 e2 w (.returned (.tuple #[rowV g D.length, .int .i64 0])) w' := by
 subst h; exact .inr ⟨rfl, g, gs, rfl, hd, hb⟩
def SplLen (s : List UInt8) : Prop := (splG s).1.length <= s.length /\ (∀ x ∈ (splG s).2.1, x.length <= s.length) /\ (splG s).2.1.length <= s.length /\ (splG s).2.2.length <= s.length /\ ∀ p ∈ (splG s).2.2, p.length <= s.length + 1 /\ ∀ x ∈ p, x.length <= s.length
theorem splG_len : ∀ (n : Nat) (s : List UInt8), s.length = n -> SplLen s := by
 intro n
 induction n using Nat.strongRecOn with
 | _ n ih =>
  intro s hs
  cases s with
  | nil => simp [SplLen, splG]
  | cons c r =>
   by_cases h92 : c = 92
   ·subst h92
    have hd : ((92 :: r).drop 2).length = (92 :: r : List UInt8).length - 2 := by simp
    obtain ⟨h1, h2, h3, h4, h5⟩ := ih ((92 :: r).drop 2).length (by rw [hd]; simp at hs ⊢; omega) _ rfl
    unfold SplLen
    rw [splG_slash]
    refine ⟨by rw [List.length_append]; have : ((92 :: r : List UInt8).take 2).length = min 2 (92 :: r : List UInt8).length := List.length_take; omega, fun x hx => ?_, ?_, ?_, fun p hp => ⟨?_, fun x hx => ?_⟩⟩
    ·have := h2 x hx; omega
    ·show (splG ((92 :: r).drop 2)).2.1.length <= _; omega
    ·show (splG ((92 :: r).drop 2)).2.2.length <= _; omega
    ·have := (h5 p hp).1; omega
    ·have := (h5 p hp).2 x hx; omega
   ·obtain ⟨h1, h2, h3, h4, h5⟩ := ih r.length (by simp at hs; omega) r rfl
    by_cases h43 : c = 43
    ·subst h43
     unfold SplLen
     rw [splG_plus]
     refine ⟨by simp, fun x hx => ?_, by simp; omega, by show (splG r).2.2.length <= _; simp; omega, fun p hp => ⟨?_, fun x hx => ?_⟩⟩
     ·rcases List.mem_cons.1 hx with rfl | hx
      ·simp; omega
      ·have := h2 x hx; simp; omega
     ·have := (h5 p hp).1; simp; omega
     ·have := (h5 p hp).2 x hx; simp; omega
    ·by_cases h44 : c = 44
     ·subst h44
      unfold SplLen
      rw [splG_comma]
      refine ⟨by simp, fun x hx => by simp at hx, by simp, by simp; omega, fun p hp => ?_⟩
      rcases List.mem_cons.1 hp with rfl | hp
      ·refine ⟨by simp; omega, fun x hx => ?_⟩
       rcases List.mem_cons.1 hx with rfl | hx
       ·simp; omega
       ·have := h2 x hx; simp; omega
      ·exact ⟨by have := (h5 p hp).1; simp; omega, fun x hx => by have := (h5 p hp).2 x hx; simp; omega⟩
     ·unfold SplLen
      rw [splG_else c r h92 h43 h44]
      exact ⟨by simp; omega, fun x hx => by have := h2 x hx; simp; omega, by show (splG r).2.1.length <= _; simp; omega, by show (splG r).2.2.length <= _; simp; omega, fun p hp => ⟨by have := (h5 p hp).1; simp; omega, fun x hx => by have := (h5 p hp).2 x hx; simp; omega⟩⟩
theorem splL_len (s : List UInt8) : (splL s).length <= s.length + 1 /\ (∀ p ∈ splL s, p.length <= s.length + 1) /\ ∀ p ∈ splL s, ∀ x ∈ p, x.length <= s.length := by
 obtain ⟨h1, h2, h3, h4, h5⟩ := splG_len s.length s rfl
 unfold splL splT
 refine ⟨by simp; omega, fun p hp => ?_, fun p hp x hx => ?_⟩
 ·rcases List.mem_cons.1 hp with rfl | hp
  ·simp; omega
  ·exact (h5 p hp).1
 ·rcases List.mem_cons.1 hp with rfl | hp
  ·simp at hx
   rcases hx with rfl | hx
   ·exact h1
   ·exact h2 x hx
  ·exact (h5 p hp).2 x hx
theorem rdD_long (s : List UInt8) (h : 4096 < s.length) : rdD s = ([], 3) := by rw [rdD, if_pos h]
theorem rdD_form (s : List UInt8) (h : ¬ 4096 < s.length) (h2 : s ≠ []) (h3 : rpp (splL s) = none) : rdD s = ([], 5) := by rw [rdD, if_neg h, if_neg h2, h3]
theorem rdD_some (s : List UInt8) (h : ¬ 4096 < s.length) (h2 : s ≠ []) {d : List (List Av)} (h3 : rpp (splL s) = some d) : rdD s = if lgD d = true then ([], 3) else if ckD d ≠ 0 then ([], ckD d) else (d, 0) := by rw [rdD, if_neg h, if_neg h2, h3]
theorem rpp_len {ps : List (List (List UInt8))} {d : List (List Av)} (h : rpp ps = some d) : d.length = ps.length := by
 induction ps generalizing d with
 | nil => simp [rpp] at h; subst h; rfl
 | cons p r ih =>
  unfold rpp at h
  cases hp : rpsL p with
  | none => rw [hp] at h; cases h
  | some q =>
   rw [hp] at h
   cases hr : rpp r with
   | none => rw [hr] at h; cases h
   | some e => rw [hr] at h; simp at h; subst h; simp [ih hr]
theorem dread_any (s : ByteArray) (w : World) (he : ErrOk w) :
  Calls Tryz.prog 46 #[.string s] w (RdPost (rdD s.data.toList) 97 95 w) := by
 have hl := len_list s
 by_cases h0 : 4096 < s.size
 ·have H := Hy (rdD_long s.data.toList (by omega))
  have h1 : (4096 : Int) < (s.size : Int) := by omega
  clear h0 hl he
  go_enter Tryz.func46, Tryz.ntmps46
  go_wp2
  go_ret2
  exact rdPost_none (n := 3) H.out (Below.refl _ _)
 have h1 : (s.size : Int) <= 4096 := by omega
 by_cases hz : s.size = 0
 ·have hn : s.data.toList = [] := List.eq_nil_of_length_eq_zero (by omega)
  have H := Hy (show rdD s.data.toList = ([], 0) by rw [hn]; rfl)
  have hem := str_e s hz
  clear h0 hl he hz hn
  go_enter Tryz.func46, Tryz.ntmps46
  go_wp2
  go_ret2
  exact rdPost_none (n := 0) H.out (Below.refl _ _)
 have hem := str_ne s (by omega)
 have hne : s.data.toList ≠ [] := fun e => by rw [e] at hl; simp at hl; omega
 have HSp := Hy (dsplit_any s (by omega) w)
 obtain ⟨q1, q2, q3⟩ := splL_len s.data.toList
 have HP := Hy (fun v w' (hg : GridR w' v (splL s.data.toList)) (he' : ErrOk w') => dparts_any v _ w' hg he' (by omega) (fun p hp => by have := q2 p hp; omega) (fun p hp x hx => by have := q3 p hp x hx; omega))
 have HF := Hy (rdD_form s.data.toList (by omega) hne)
 have HS := Hy (fun d => rdD_some s.data.toList (by omega) hne (d := d))
 have HL := Hy (fun d (h : rpp (splL s.data.toList) = some d) => show d.length <= 5000 by rw [rpp_len h]; omega)
 have HE := Hy he
 obtain ⟨o, ho⟩ : ∃ o, rpp (splL s.data.toList) = o := ⟨_, rfl⟩
 rw [ho] at HP HF HS HL
 clear h0 hl he hz hne ho q1 q2 q3
 go_enter Tryz.func46, Tryz.ntmps46
 go_wp2_with fail
 refine HSp.out.mono ?_
 rintro e w2 ⟨v, vs, rfl, hg, hb⟩
 have HPP := Hy (HP.out v w2 (gridR_of hg) (errOk_below HE.out hb))
 obtain ⟨va, vc, rfl⟩ := ownsRow_slice hg.2.1
 have HB := Hy hb
 clear hg hb
 cases o with
 | none =>
  change Hid (Calls Tryz.prog _ _ w2 fun en w' => en = .returned (.tuple #[.slice none 0 0, .bool false]) /\ Below w2.heap.size w2 w') at HPP
  go_wp2_with fail
  refine HPP.out.mono ?_
  rintro e w3 ⟨rfl, hb3⟩
  go_wp2
  go_ret2
  exact rdPost_none (n := 5) (HF.out (by first | rfl | trivial)) (HB.out.trans (hb3.mono HB.out.size))
 | some d =>
  change Hid (Calls Tryz.prog _ _ w2 fun en w' => ∃ g gs, en = .returned (.tuple #[rowV g d.length, .bool true]) /\ DnBlk w' w2.heap.size g gs d 0 _ _ /\ Below w2.heap.size w2 w') at HPP
  go_wp2_with fail
  refine HPP.out.mono ?_
  rintro e w3 ⟨g, gs, rfl, hd, hb3⟩
  unfold rowV
  have HLg := Hy (dlong_any _ d w3 (dnAt_blk hd) (by have := HL.out d rfl; omega))
  have HCk := Hy (dcheck_any _ d w3 (dnAt_blk hd))
  unfold rowV at HLg HCk
  have HR := Hy (HS.out d rfl)
  have H3 := Hy (An (HB.out.trans (hb3.mono HB.out.size)) (An hd HB.out.size))
  clear hd hb3
  obtain ⟨lg, hlg⟩ : ∃ b, lgD d = b := ⟨_, rfl⟩
  obtain ⟨ck, hck⟩ : ∃ n, ckD d = n := ⟨_, rfl⟩
  rw [hlg, hck] at HR
  rw [hlg] at HLg
  rw [hck] at HCk
  clear hlg hck
  cases lg with
  | true =>
   go_wp2_with fail
   refine HLg.out.mono ?_
   rintro e w4 ⟨rfl, hw⟩
   obtain rfl := hw.symm
   go_wp2
   go_ret2
   exact rdPost_none (n := 3) HR.out H3.out.1
  | false =>
   by_cases hck : ck = 0
   ·have HR2 := Hy (show rdD s.data.toList = (d, 0) by rw [HR.out, hck]; rfl)
    subst hck
    go_wp2_with fail
    refine HLg.out.mono ?_
    rintro e w4 ⟨rfl, hw⟩
    obtain rfl := hw.symm
    go_wp2_with fail
    refine HCk.out.mono ?_
    rintro e w4 ⟨rfl, hb4⟩
    have H4 := Hy (An (blk_below H3.out.2.1 hb4) (H3.out.1.trans (hb4.mono H3.out.1.size)))
    clear hb4
    go_wp2
    go_ret2
    have h9 := H4.out.1
    exact rdPost_some (gs := gs) HR2.out ⟨Nat.le_trans H3.out.2.2 h9.base, h9.len, h9.outer, fun i hi hi' => ⟨Nat.le_trans H3.out.2.2 (h9.rows i hi hi').1, (h9.rows i hi hi').2⟩, h9.nodup⟩ H4.out.2
   ·have HR2 := Hy (show rdD s.data.toList = ([], ck) by rw [HR.out, if_neg (by simp), if_pos hck])
    have hq : ((ck : Int) != 0) = true := by simp; omega
    clear hck
    go_wp2_with fail
    refine HLg.out.mono ?_
    rintro e w4 ⟨rfl, hw⟩
    obtain rfl := hw.symm
    go_wp2_with fail
    refine HCk.out.mono ?_
    rintro e w4 ⟨rfl, hb4⟩
    have H4 := Hy (H3.out.1.trans (hb4.mono H3.out.1.size))
    clear hb4
    go_wp2
    go_ret2
    exact rdPost_none HR2.out H4.out
end Go.Proofs.YtpkbgkoocijegaaGreatDoor
