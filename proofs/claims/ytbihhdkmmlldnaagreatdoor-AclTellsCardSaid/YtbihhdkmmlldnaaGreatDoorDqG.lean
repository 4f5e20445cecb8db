/- A value's text read, for every text. A pair's text read, for every text. A name that a call lays anew: its rows in memory, each for itself. -/
import Derived.Test.YtbihhdkmmlldnaaGreatDoorDqF
import Derived.Test.YtbihhdkmmlldnaaGreatDoorDqB
namespace Go.Proofs.YtbihhdkmmlldnaaGreatDoor
set_option linter.unusedSimpArgs false
set_option linter.unusedVariables false
open Go Go.RowKit Go.Proofs.BerK Go.Proofs.MemK Go.Proofs.UtfK

/-- What a value is at last, when out was read, of which size bytes count, and the rest is l. -/
def rvT (out : List UInt8) (size : Nat) (f : Bool) (l : List UInt8) : Option (List UInt8) := (rvG f l).map fun v => if v = [] then out.take size else out ++ v
theorem rvG_blank (f : Bool) (r : List UInt8) : rvG f (32 :: r) = (rvG false r).map fun v => if v = [] then [] else 32 :: v := by
  conv => lhs; unfold rvG
  cases r with
  | nil => simp
  | cons d r => cases r <;> simp
theorem rvG_slash (f : Bool) (r : List UInt8) : rvG f (92 :: r) = match rmL r with | none => none | some (c, n) => (rvG false (r.drop n)).map (c :: ·) := by
  conv => lhs; unfold rvG
  cases r with
  | nil => simp [rmL]
  | cons d r =>
    cases r with
    | nil => by_cases h : mayN d.toNat = true <;> simp [rmL, h]
    | cons e r =>
      by_cases h : mayN d.toNat = true
      · simp [rmL, h]
      · by_cases h2 : hxN d.toNat < 16 ∧ hxN e.toNat < 16 <;> simp [rmL, h, h2]
theorem rvG_bad (f : Bool) (c : UInt8) (r : List UInt8) (h1 : c ≠ 32) (h2 : c ≠ 92) (h : bareN c.toNat = true ∨ (c ≠ 61 ∧ mkN f false c.toNat = true)) : rvG f (c :: r) = none := by
  conv => lhs; unfold rvG
  cases r with
  | nil => rw [if_neg h1, if_neg h2, if_pos h]
  | cons d r => cases r <;> (rw [if_neg h1, if_neg h2, if_pos h])
theorem rvG_else (f : Bool) (c : UInt8) (r : List UInt8) (h1 : c ≠ 32) (h2 : c ≠ 92) (h : ¬ (bareN c.toNat = true ∨ (c ≠ 61 ∧ mkN f false c.toNat = true))) : rvG f (c :: r) = (rvG false r).map (c :: ·) := by
  conv => lhs; unfold rvG
  cases r with
  | nil => rw [if_neg h1, if_neg h2, if_neg h]
  | cons d r => cases r <;> (rw [if_neg h1, if_neg h2, if_neg h])
theorem rvT_blank (out : List UInt8) (size : Nat) (f : Bool) (r : List UInt8) (h : size ≤ out.length) : rvT out size f (32 :: r) = rvT (out ++ [32]) size false r := by
  unfold rvT
  rw [rvG_blank, Option.map_map]
  congr 1
  funext v
  simp only [Function.comp]
  by_cases hv : v = []
  · subst hv; simp [List.take_append_of_le_length h]
  · simp [hv]
theorem rvT_add (out : List UInt8) (size : Nat) (f : Bool) (c : UInt8) (l r : List UInt8) (h : rvG f l = (rvG false r).map (c :: ·)) : rvT out size f l = rvT (out ++ [c]) (out.length + 1) false r := by
  unfold rvT
  rw [h, Option.map_map]
  congr 1
  funext v
  simp only [Function.comp]
  by_cases hv : v = []
  · subst hv; rw [if_neg (by simp), if_pos rfl, List.take_of_length_le (by simp)]
  · simp [hv]
theorem rvT_none (out : List UInt8) (size : Nat) (f : Bool) (l : List UInt8) (h : rvG f l = none) : rvT out size f l = none := by rw [rvT, h]; rfl
theorem rvT_end (out : List UInt8) (size : Nat) (f : Bool) : rvT out size f [] = some (out.take size) := by simp [rvT, rvG]
theorem rvT_start (l : List UInt8) : rvT [] 0 true l = rvG true l := by
  unfold rvT
  cases h : rvG true l with
  | none => rfl
  | some v => by_cases hv : v = [] <;> simp [hv]
theorem rm_len {l : List UInt8} {c : UInt8} {n : Nat} (h : rmL l = some (c, n)) : 1 ≤ n ∧ n ≤ 2 ∧ n ≤ l.length := by
  cases l with
  | nil => simp [rmL] at h
  | cons d r =>
    by_cases hm : mayN d.toNat = true
    · rw [rmL_may _ _ hm] at h; injection h with h; injection h with _ h; subst h; simp
    · cases r with
      | nil => rw [rmL_one _ hm] at h; cases h
      | cons e r =>
        rw [rmL_two _ _ _ hm] at h
        split at h
        · injection h with h; injection h with _ h; subst h; simp
        · cases h

theorem mkN_last (a b b' : Bool) (c : Nat) (h : c ≠ 32) : mkN a b c = mkN a b' c := by simp [mkN, h]
def RvV : Option (List UInt8) → Value
  | none => .tuple #[.string ⟨#[]⟩, .bool false]
  | some v => .tuple #[.string ⟨v.toArray⟩, .bool true]
def RvPost (o : Option (List UInt8)) (w : World) (en : Ending) (w' : World) : Prop := en = .returned (RvV o) ∧ Below w.heap.size w w'

set_option maxHeartbeats 6400000 in
set_option maxRecDepth 100000 in
theorem dvalue_any (s : ByteArray) (hs : s.size ≤ 140737488355328) (w : World) (he : ErrOk w) :
    Calls Tryz.prog 136 #[.string s] w (RvPost (rvL s.data.toList) w) := by
  have HT := Lib.hid (triml_any s)
  have hRV : rvL s.data.toList = rvT [] 0 true (tlB s.data.toList) := by rw [rvT_start]; rfl
  obtain ⟨x, hx⟩ : ∃ x : ByteArray, x = ⟨(tlB s.data.toList).toArray⟩ := ⟨_, rfl⟩
  have hxl : x.data.toList = tlB s.data.toList := by rw [hx]
  have hxs : x.size ≤ 140737488355328 := by
    rw [← len_list x, hxl]
    have := tlB_len s.data.toList
    rw [len_list] at this; omega
  rw [hRV, ← hxl]
  change Hid (∀ w, Calls Tryz.prog _ _ w fun en w' => en = .returned (.string ⟨(tlB s.data.toList).toArray⟩) ∧ w' = w) at HT
  rw [← hx] at HT
  have HE := Lib.hid he
  clear hRV hx hxl hs he
  go_enter Tryz.func136, Tryz.ntmps136
  go_wp2_with fail
  refine (HT.out _).mono ?_
  rintro e w1 ⟨rfl, hw⟩
  obtain rfl := hw.symm
  go_wp2
  go_loopw [4, 5, 6] (fun o z v wr => ∃ (k n : Nat) (out : List UInt8), k ≤ x.size ∧ v = .int .i64 (k : Nat) ∧ z = .int .i64 (n : Nat) ∧ n ≤ out.length ∧ out.length ≤ k ∧ wr.ownsRow w.heap.size 5 1 o out.length (bc out) ∧ Below w.heap.size w wr ∧
    rvT out n (decide (k = 0)) (x.data.toList.drop k) = rvT [] 0 true x.data.toList) (fun _ _ v _ => x.size - (intOf v).toNat)
  case atStart => exact ⟨0, 0, [], by omega, rfl, rfl, by simp, by simp, World.ownsRow_nil _ _ _ _, Below.refl _ _, rfl⟩
  case round =>
    obtain ⟨k, n, out, hk, rfl, rfl, hn, hok, hown, hb, hinv⟩ := hrel
    by_cases hlt : k < x.size
    · have hl := len_list x
      have hkl : (k : Int) < (x.size : Int) := by omega
      have h8 : x[k].toNat < 256 := x[k].toNat_lt
      have hd := drop_at x.data.toList k (by omega)
      rw [at_list x k hlt] at hd
      rw [hd] at hinv
      have HEr := Lib.hid (errOk_low HE.out hb (Nat.lt_of_lt_of_le (Lib.lt_of_cell HE.out.choose_spec.1) (Nat.le_refl _)))
      have H := Lib.hid (And.intro hown (And.intro hb (And.intro hn hok)))
      have HM := Lib.hid (dmark_any x k hlt hxs)
      have HK := Lib.hid (And.intro (show decide (k + 1 = 0) = false by simp) hd)
      clear hown hb hd hl
      obtain ⟨c, hc⟩ : ∃ c, x[k] = c := ⟨_, rfl⟩
      rw [hc] at h8 hinv HM
      by_cases h32 : c = 32
      · have q : ((c.toNat : Int) == 32) = true := by rw [h32]; rfl
        rw [h32, rvT_blank _ _ _ _ hn] at hinv
        have HI := Lib.hid hinv
        have HC := Lib.hid h32
        clear hinv h32
        go_wp2_with (at_builtin; refine wpList_pushm rfl (.tmp 23) (.tmp 25) 77 5 rfl w.heap.size 1 1 (.int .u8 0) Tryz.info5 Tryz.underlying77 rfl (by decide) 1 [.int .u8 (c.toNat : Int)] rfl ?c0 _ out.length _ rfl _ rfl ?c3 H.out.1 ?c1 ?c2 H.out.2.1.size ?_)
        case c0 => first | rfl | (intro u hu; simp at hu; subst hu; rfl)
        case c1 => unfold maxLen; omega
        case c2 => omega
        case c3 => rfl
        intro v' w' g1 g2
        have g3 : w'.ownsRow w.heap.size 5 1 v' (out ++ [32]).length (bc (out ++ [32])) := by rw [bc_append, List.length_append]; rw [HC.out] at g1; exact g1
        have H2 := Lib.hid (And.intro g3 (H.out.2.1.trans g2))
        clear g1 g2 g3
        go_wp2
        refine ⟨⟨k + 1, n, out ++ [32], by omega, by go_num, rfl, by simp; omega, by simp; omega, H2.out.1, H2.out.2, by rw [HK.out.1]; exact HI.out⟩, by simp [intOf]; omega⟩
      · have q : ((c.toNat : Int) == 32) = false := by rw [beq_eq_false_iff_ne]; intro hh; apply h32; apply UInt8.toNat_inj.1; show _ = 32; omega
        by_cases h92 : c = 92
        · have q2 : ((c.toNat : Int) == 92) = true := by rw [h92]; rfl
          rw [h92] at hinv
          have hex : (x.extract (k + 1) x.size).data.toList = x.data.toList.drop (k + 1) := Lib.extract_to_end x (k + 1)
          have HR := Lib.hid (dmarked_any (x.extract (k + 1) x.size) wr HEr.out)
          rw [hex] at HR
          have hk1 : (k : Int) + 1 ≤ (x.size : Int) := by omega
          have hk0 : (0 : Int) ≤ (k : Int) + 1 := by omega
          cases hrm : rmL (x.data.toList.drop (k + 1)) with
          | none =>
            rw [hrm] at HR
            have HI := Lib.hid (show rvT [] 0 true x.data.toList = none by rw [← hinv]; exact rvT_none _ _ _ _ (by rw [rvG_slash, hrm]))
            change Hid (Calls Tryz.prog _ _ wr fun en w' => en = .returned (.tuple #[.int .u8 0, .int .i64 0]) ∧ Below wr.heap.size wr w') at HR
            clear hinv h92 h32 hrm hex
            go_wp2_with fail
            refine HR.out.mono ?_
            rintro e w2 ⟨rfl, hb2⟩
            go_wp2
            go_ret2
            exact ⟨by rw [HI.out]; rfl, H.out.2.1.trans (hb2.mono H.out.2.1.size)⟩
          | some q =>
            obtain ⟨c', n'⟩ := q
            rw [hrm] at HR
            have hrl := rm_len hrm
            rw [List.length_drop, len_list] at hrl
            have HI := Lib.hid (show rvT (out ++ [c']) (out.length + 1) false (x.data.toList.drop (k + 1 + n')) = rvT [] 0 true x.data.toList by
              rw [← hinv, ← List.drop_drop]; exact (rvT_add _ _ _ c' _ _ (by rw [rvG_slash, hrm])).symm)
            change Hid (Calls Tryz.prog _ _ wr fun en w' => en = .returned (.tuple #[.int .u8 (c'.toNat : Nat), .int .i64 (n' : Nat)]) ∧ Below wr.heap.size wr w') at HR
            have hn0 : ((n' : Int) == 0) = false := by rw [beq_eq_false_iff_ne]; omega
            have hn2 : (n' : Int) ≤ 2 := by omega
            clear hinv h92 h32 hrm hex
            go_wp2_with fail
            refine HR.out.mono ?_
            rintro e w2 ⟨rfl, hb2⟩
            have HB2 := Lib.hid (And.intro (ownsRow_below H.out.1 hb2) (H.out.2.1.trans (hb2.mono H.out.2.1.size)))
            clear hb2
            go_wp2_with (at_builtin; refine wpList_pushm rfl (.tmp 55) (.tmp 57) 77 5 rfl w.heap.size 1 1 (.int .u8 0) Tryz.info5 Tryz.underlying77 rfl (by decide) 1 [.int .u8 (c'.toNat : Int)] rfl ?c0 _ out.length _ rfl _ rfl ?c3 HB2.out.1 ?c1 ?c2 HB2.out.2.size ?_)
            case c0 => first | rfl | (intro u hu; simp at hu; subst hu; rfl)
            case c1 => unfold maxLen; omega
            case c2 => omega
            case c3 => rfl
            intro v' w' g1 g2
            obtain ⟨va, vc, rfl⟩ := ownsRow_slice g1
            have g3 : w'.ownsRow w.heap.size 5 1 (.slice va (out.length + 1) vc) (out ++ [c']).length (bc (out ++ [c'])) := by rw [bc_append, List.length_append]; exact g1
            have H2 := Lib.hid (And.intro g3 (HB2.out.2.trans g2))
            clear g1 g2 g3
            go_wp2
            refine ⟨⟨k + 1 + n', out.length + 1, out ++ [c'], by omega, by go_num, by go_num, by simp, by simp; omega, H2.out.1, H2.out.2, by rw [show decide (k + 1 + n' = 0) = false by simp]; exact HI.out⟩, by simp [intOf]; omega⟩
        · have q2 : ((c.toNat : Int) == 92) = false := by rw [beq_eq_false_iff_ne]; intro hh; apply h92; apply UInt8.toNat_inj.1; show _ = 92; omega
          have HBR := Lib.hid (dbare_any c.toNat)
          have hk61 : ((⟨#[61]⟩ : ByteArray)[0]'(by decide)).toNat = 61 := rfl
          by_cases hbr : bareN c.toNat = true
          · rw [hbr] at HBR
            have HI := Lib.hid (show rvT [] 0 true x.data.toList = none by rw [← hinv]; exact rvT_none _ _ _ _ (rvG_bad _ _ _ h32 h92 (.inl hbr)))
            clear hinv h92 h32 hbr
            go_wp2_with fail
            refine (HBR.out _).mono ?_
            rintro e w2 ⟨rfl, hw⟩
            obtain rfl := hw.symm
            go_wp2
            go_ret2
            exact ⟨by rw [HI.out]; rfl, H.out.2.1⟩
          · have hbf : bareN c.toNat = false := by simpa using hbr
            rw [hbf] at HBR
            by_cases h61 : c = 61
            · have q3 : ((c.toNat : Int) != 61) = false := by rw [h61]; rfl
              have HI := Lib.hid (show rvT (out ++ [c]) (out.length + 1) false (x.data.toList.drop (k + 1)) = rvT [] 0 true x.data.toList by
                rw [← hinv]; exact (rvT_add _ _ _ c _ _ (rvG_else _ _ _ h32 h92 (fun hh => by rcases hh with hh | ⟨hh, _⟩; exact hbr hh; exact hh h61))).symm)
              clear hinv h92 h32 hbr hbf h61
              go_wp2_with fail
              refine (HBR.out _).mono ?_
              rintro e w2 ⟨rfl, hw⟩
              obtain rfl := hw.symm
              go_wp2_with (at_builtin; refine wpList_pushm rfl (.tmp 55) (.tmp 57) 77 5 rfl w.heap.size 1 1 (.int .u8 0) Tryz.info5 Tryz.underlying77 rfl (by decide) 1 [.int .u8 (c.toNat : Int)] rfl ?c0 _ out.length _ rfl _ rfl ?c3 H.out.1 ?c1 ?c2 H.out.2.1.size ?_)
              case c0 => first | rfl | (intro u hu; simp at hu; subst hu; rfl)
              case c1 => unfold maxLen; omega
              case c2 => omega
              case c3 => rfl
              intro v' w' g1 g2
              obtain ⟨va, vc, rfl⟩ := ownsRow_slice g1
              have g3 : w'.ownsRow w.heap.size 5 1 (.slice va (out.length + 1) vc) (out ++ [c]).length (bc (out ++ [c])) := by rw [bc_append, List.length_append]; exact g1
              have H2 := Lib.hid (And.intro g3 (H.out.2.1.trans g2))
              clear g1 g2 g3
              go_wp2
              refine ⟨⟨k + 1, out.length + 1, out ++ [c], by omega, by go_num, by go_num, by simp, by simp; omega, H2.out.1, H2.out.2, by rw [HK.out.1]; exact HI.out⟩, by simp [intOf]; omega⟩
            · have q3 : ((c.toNat : Int) != 61) = true := by rw [bne_iff_ne]; intro hh; apply h61; apply UInt8.toNat_inj.1; show _ = 61; omega
              have hml := mkN_last (decide (k = 0)) (decide (k + 1 = x.size)) false c.toNat (fun hh => h32 (UInt8.toNat_inj.1 hh))
              rw [hml] at HM
              cases hmk : mkN (decide (k = 0)) false c.toNat with
              | true =>
                rw [hmk] at HM
                have HI := Lib.hid (show rvT [] 0 true x.data.toList = none by rw [← hinv]; exact rvT_none _ _ _ _ (rvG_bad _ _ _ h32 h92 (.inr ⟨h61, hmk⟩)))
                clear hinv h92 h32 hbr hbf h61 hml hmk
                go_wp2_with fail
                refine (HBR.out _).mono ?_
                rintro e w2 ⟨rfl, hw⟩
                obtain rfl := hw.symm
                go_wp2_with fail
                refine (HM.out _).mono ?_
                rintro e w2 ⟨rfl, hw⟩
                obtain rfl := hw.symm
                go_wp2
                go_ret2
                exact ⟨by rw [HI.out]; rfl, H.out.2.1⟩
              | false =>
                rw [hmk] at HM
                have HI := Lib.hid (show rvT (out ++ [c]) (out.length + 1) false (x.data.toList.drop (k + 1)) = rvT [] 0 true x.data.toList by
                  rw [← hinv]; exact (rvT_add _ _ _ c _ _ (rvG_else _ _ _ h32 h92 (fun hh => by rcases hh with hh | ⟨_, hh⟩; exact hbr hh; rw [hmk] at hh; cases hh))).symm)
                clear hinv h92 h32 hbr hbf h61 hml hmk
                go_wp2_with fail
                refine (HBR.out _).mono ?_
                rintro e w2 ⟨rfl, hw⟩
                obtain rfl := hw.symm
                go_wp2_with fail
                refine (HM.out _).mono ?_
                rintro e w2 ⟨rfl, hw⟩
                obtain rfl := hw.symm
                go_wp2_with (at_builtin; refine wpList_pushm rfl (.tmp 55) (.tmp 57) 77 5 rfl w.heap.size 1 1 (.int .u8 0) Tryz.info5 Tryz.underlying77 rfl (by decide) 1 [.int .u8 (c.toNat : Int)] rfl ?c0 _ out.length _ rfl _ rfl ?c3 H.out.1 ?c1 ?c2 H.out.2.1.size ?_)
                case c0 => first | rfl | (intro u hu; simp at hu; subst hu; rfl)
                case c1 => unfold maxLen; omega
                case c2 => omega
                case c3 => rfl
                intro v' w' g1 g2
                obtain ⟨va, vc, rfl⟩ := ownsRow_slice g1
                have g3 : w'.ownsRow w.heap.size 5 1 (.slice va (out.length + 1) vc) (out ++ [c]).length (bc (out ++ [c])) := by rw [bc_append, List.length_append]; exact g1
                have H2 := Lib.hid (And.intro g3 (H.out.2.1.trans g2))
                clear g1 g2 g3
                go_wp2
                refine ⟨⟨k + 1, out.length + 1, out ++ [c], by omega, by go_num, by go_num, by simp, by simp; omega, H2.out.1, H2.out.2, by rw [HK.out.1]; exact HI.out⟩, by simp [intOf]; omega⟩
    · obtain rfl : k = x.size := by omega
      rw [List.drop_of_length_le (by rw [len_list]; exact Nat.le_refl _), rvT_end] at hinv
      rcases hown.2 with ⟨hv, h0⟩ | ⟨g, cap, cur, hv, hB, hg, hnc, hm, hcs, htk⟩
      · have hout : out = [] := List.eq_nil_of_length_eq_zero h0
        have hn0 : n = 0 := by omega
        subst hout hn0 hv
        have hcv := conv_mid (P := Tryz.prog) (src := 77) (dst := 9) Tryz.underlying77 Tryz.underlying5 Tryz.underlying9 (mid_nil wr w.heap.size 5)
        have H := Lib.hid (And.intro hb hinv.symm)
        clear hb hown hinv
        go_wp2
        go_ret2
        exact ⟨by rw [H.out.2]; rfl, H.out.1⟩
      · have hmid := mid_owns hown
        subst hv
        have hmt := mid_take hmid n hn
        have hcv := conv_mid (P := Tryz.prog) (src := 77) (dst := 9) Tryz.underlying77 Tryz.underlying5 Tryz.underlying9 hmt
        have hnc' : (n : Int) ≤ (cap : Int) := by omega
        have H := Lib.hid (And.intro hb hinv.symm)
        clear hb hown hinv hmid hmt hg htk hcs
        go_wp2
        go_ret2
        exact ⟨by rw [H.out.2]; rfl, H.out.1⟩
end Go.Proofs.YtbihhdkmmlldnaaGreatDoor
namespace Go.Proofs.YtbihhdkmmlldnaaGreatDoor
set_option linter.unusedSimpArgs false
set_option linter.unusedVariables false
open Go Go.RowKit Go.Proofs.BerK Go.Proofs.MemK Go.Proofs.UtfK

theorem cut1_len (c : UInt8) (l : List UInt8) : (cut1 c l).length ≤ l.length := (List.takeWhile_sublist _).length_le
theorem cut2_len (c : UInt8) (l : List UInt8) : (cut2 c l).length ≤ l.length := by
  unfold cut2
  rw [List.length_drop]
  have := (List.dropWhile_sublist (· != c) (l := l)).length_le
  omega
def RpV : Option Av → Value
  | none => .tuple #[.agg #[.string ⟨#[]⟩, .string ⟨#[]⟩], .bool false]
  | some p => .tuple #[.agg #[.string ⟨p.1.toArray⟩, .string ⟨p.2.toArray⟩], .bool true]
def RpPost (o : Option Av) (w : World) (en : Ending) (w' : World) : Prop := en = .returned (RpV o) ∧ Below w.heap.size w w'

/-- A struct of two cells is stored whole. -/
theorem obj_set2 {w : World} {g : Nat} {a b : Value} {t : TypeId} (h : w.heap[g]? = some (.cells #[a, b] t (0, 0))) (a' b' : Value) : ((w.setCell ⟨g, 0, none⟩ a').setCell ⟨g, 1, none⟩ b').heap[g]? = some (.cells #[a', b'] t (0, 0)) :=
  obj_set (obj_set h 0 a') 1 b'
theorem obj2 {w : World} {g : Nat} {a b : Value} {t : TypeId} (h : w.heap[g]? = some (.cells #[a, b] t (0, 0))) : w.cell? ⟨g, 0, none⟩ = some a ∧ w.cell? ⟨g, 1, none⟩ = some b := ⟨obj_cell h 0 a rfl, obj_cell h 1 b rfl⟩
theorem below_set2 {B : Nat} {a w : World} (h : Below B a w) {g : Nat} (hg : B ≤ g) (x y : Value) : Below B a ((w.setCell ⟨g, 0, none⟩ x).setCell ⟨g, 1, none⟩ y) :=
  (h.setCell (p := ⟨g, 0, none⟩) hg x).setCell (p := ⟨g, 1, none⟩) hg y

set_option maxHeartbeats 3200000 in
set_option maxRecDepth 100000 in
theorem dpair_any (s : ByteArray) (hs : s.size ≤ 140737488355328) (w : World) (he : ErrOk w) :
    Calls Tryz.prog 114 #[.string s] w (RpPost (rpL s.data.toList) w) := by
  have HC := Lib.hid (scut_any s hs)
  obtain ⟨A, hA⟩ : ∃ A, cut1 61 s.data.toList = A := ⟨_, rfl⟩
  obtain ⟨B, hB⟩ : ∃ B, cut2 61 s.data.toList = B := ⟨_, rfl⟩
  have hAl : A.length ≤ 140737488355328 := by rw [← hA]; have := cut1_len 61 s.data.toList; rw [len_list] at this; omega
  have hBl : B.length ≤ 140737488355328 := by rw [← hB]; have := cut2_len 61 s.data.toList; rw [len_list] at this; omega
  change Hid (∀ w, Calls Tryz.prog _ _ w fun en w' => (∃ b, en = .returned (.tuple #[.string ⟨(cut1 61 s.data.toList).toArray⟩, .string ⟨(cut2 61 s.data.toList).toArray⟩, .bool b])) ∧ Below w.heap.size w w') at HC
  rw [hA, hB] at HC
  have HT := Lib.hid (trim32_any ⟨A.toArray⟩ (show A.length ≤ _ from hAl))
  obtain ⟨T, hT⟩ : ∃ T, tlB (trB A) = T := ⟨_, rfl⟩
  change Hid (∀ w, Calls Tryz.prog _ _ w (StrPost (tlB (trB A)) w)) at HT
  rw [hT] at HT
  have HY := Lib.hid (dtype_any ⟨T.toArray⟩)
  change Hid (∀ w, Calls Tryz.prog _ _ w (PureB (tyL T) w)) at HY
  have HV := Lib.hid (fun w he => dvalue_any ⟨B.toArray⟩ (show B.length ≤ _ from hBl) w he)
  change Hid (∀ w, ErrOk w → Calls Tryz.prog _ _ w (RvPost (rvL B) w)) at HV
  have hrp : rpL s.data.toList = rpJ (tyL T) T (rvL B) := by unfold rpL; rw [hA, hB, hT]
  have HE := Lib.hid he
  rw [hrp]
  obtain ⟨W1, hW1⟩ : ∃ W1, w.alloc (.cells #[.string ⟨#[]⟩, .string ⟨#[]⟩] 89) = W1 := ⟨_, rfl⟩
  have hbox : W1.heap[w.heap.size]? = some (.cells #[.string ⟨#[]⟩, .string ⟨#[]⟩] 89 (0, 0)) := by rw [← hW1]; exact heap_alloc_new w _
  have hbW : Below w.heap.size w W1 := by rw [← hW1]; exact (Below.refl _ w).alloc (Nat.le_refl _) _
  have HW := Lib.hid (And.intro hbox hbW)
  clear hA hB hT hrp hAl hBl hs he hbox hbW
  obtain ⟨ty, hty⟩ : ∃ ty, tyL T = ty := ⟨_, rfl⟩
  rw [hty] at HY ⊢
  clear hty
  cases ty with
  | false =>
    go_enter Tryz.func114, Tryz.ntmps114
    go_wp2_with fail
    refine (HC.out _).mono ?_
    rintro e w2 ⟨⟨b, rfl⟩, hb2⟩
    go_wp2_with fail
    refine (HT.out _).mono ?_
    rintro e w3 ⟨rfl, hb3⟩
    go_wp2_with fail
    refine (HY.out _).mono ?_
    rintro e w4 ⟨rfl, hw⟩
    obtain rfl := hw.symm
    have hb5 : Below W1.heap.size W1 w3 := hb2.trans (hb3.mono hb2.size)
    have hbx := obj_below HW.out.1 hb5 (obj_lt HW.out.1)
    obtain ⟨b0, b1⟩ := obj2 hbx
    have f0 := obj_free hbx 0
    have f1 := obj_free hbx 1
    have HF := Lib.hid (And.intro (HW.out.2.trans (hb5.mono HW.out.2.size)) (obj_set2 hbx (.string ⟨#[]⟩) (.string ⟨#[]⟩)))
    clear hb5 hbx
    go_wp2
    obtain ⟨g0, g1⟩ := obj2 HF.out.2
    refine bodyPost_ret (v := RpV (none)) (by simp [results, Tryz.results114, go_sem, RpV, *]) rfl ⟨?_, below_set2 HF.out.1 (Nat.le_refl _) _ _⟩
    rfl
  | true =>
    obtain ⟨o, ho⟩ : ∃ o, rvL B = o := ⟨_, rfl⟩
    rw [ho] at HV ⊢
    clear ho
    go_enter Tryz.func114, Tryz.ntmps114
    go_wp2_with fail
    refine (HC.out _).mono ?_
    rintro e w2 ⟨⟨b, rfl⟩, hb2⟩
    go_wp2_with fail
    refine (HT.out _).mono ?_
    rintro e w3 ⟨rfl, hb3⟩
    go_wp2_with fail
    refine (HY.out _).mono ?_
    rintro e w4 ⟨rfl, hw⟩
    obtain rfl := hw.symm
    have hb5 : Below W1.heap.size W1 w3 := hb2.trans (hb3.mono hb2.size)
    have HVV := Lib.hid (HV.out w3 (errOk_below HE.out (show Below w.heap.size w w3 from HW.out.2.trans (hb5.mono HW.out.2.size))))
    have H5 := Lib.hid hb5
    clear hb2 hb3 hb5
    cases o with
    | none =>
      change Hid (Calls Tryz.prog _ _ w3 fun en w' => en = .returned (.tuple #[.string ⟨#[]⟩, .bool false]) ∧ Below w3.heap.size w3 w') at HVV
      go_wp2_with fail
      refine HVV.out.mono ?_
      rintro e w6 ⟨rfl, hb6⟩
      have hb5 : Below W1.heap.size W1 w6 := H5.out.trans (hb6.mono H5.out.size)
      have hbx := obj_below HW.out.1 hb5 (obj_lt HW.out.1)
      clear hb6
      obtain ⟨b0, b1⟩ := obj2 hbx
      have f0 := obj_free hbx 0
      have f1 := obj_free hbx 1
      have HF := Lib.hid (And.intro (HW.out.2.trans (hb5.mono HW.out.2.size)) (obj_set2 hbx (.string ⟨#[]⟩) (.string ⟨#[]⟩)))
      clear hb5 hbx
      go_wp2
      obtain ⟨g0, g1⟩ := obj2 HF.out.2
      refine bodyPost_ret (v := RpV (none)) (by simp [results, Tryz.results114, go_sem, RpV, *]) rfl ⟨?_, below_set2 HF.out.1 (Nat.le_refl _) _ _⟩
      rfl
    | some v =>
      change Hid (Calls Tryz.prog _ _ w3 fun en w' => en = .returned (.tuple #[.string ⟨v.toArray⟩, .bool true]) ∧ Below w3.heap.size w3 w') at HVV
      by_cases hv : v = []
      · have hem : v.isEmpty = true := by rw [hv]; rfl
        have HR := Lib.hid (show rpJ true T (some v) = none by rw [rpJ, if_pos rfl]; show (if v = [] then none else some (T, v)) = none; rw [if_pos hv])
        clear hv
        go_wp2_with fail
        refine HVV.out.mono ?_
        rintro e w6 ⟨rfl, hb6⟩
        have hb5 : Below W1.heap.size W1 w6 := H5.out.trans (hb6.mono H5.out.size)
        have hbx := obj_below HW.out.1 hb5 (obj_lt HW.out.1)
        clear hb6
        obtain ⟨b0, b1⟩ := obj2 hbx
        have f0 := obj_free hbx 0
        have f1 := obj_free hbx 1
        have HF := Lib.hid (And.intro (HW.out.2.trans (hb5.mono HW.out.2.size)) (obj_set2 hbx (.string ⟨#[]⟩) (.string ⟨#[]⟩)))
        clear hb5 hbx
        go_wp2
        obtain ⟨g0, g1⟩ := obj2 HF.out.2
        refine bodyPost_ret (v := RpV (none)) (by simp [results, Tryz.results114, go_sem, RpV, *]) rfl ⟨?_, below_set2 HF.out.1 (Nat.le_refl _) _ _⟩
        rw [HR.out]
      · have hem : v.isEmpty = false := by cases v <;> simp_all
        have HR := Lib.hid (show rpJ true T (some v) = some (T, v) by rw [rpJ, if_pos rfl]; show (if v = [] then none else some (T, v)) = some (T, v); rw [if_neg hv])
        clear hv
        go_wp2_with fail
        refine HVV.out.mono ?_
        rintro e w6 ⟨rfl, hb6⟩
        have hb5 : Below W1.heap.size W1 w6 := H5.out.trans (hb6.mono H5.out.size)
        have hbx := obj_below HW.out.1 hb5 (obj_lt HW.out.1)
        clear hb6
        obtain ⟨b0, b1⟩ := obj2 hbx
        have f0 := obj_free hbx 0
        have f1 := obj_free hbx 1
        have HF := Lib.hid (And.intro (HW.out.2.trans (hb5.mono HW.out.2.size)) (obj_set2 hbx (.string ⟨T.toArray⟩) (.string ⟨v.toArray⟩)))
        clear hb5 hbx
        go_wp2
        obtain ⟨g0, g1⟩ := obj2 HF.out.2
        refine bodyPost_ret (v := RpV (some (T, v))) (by simp [results, Tryz.results114, go_sem, RpV, *]) rfl ⟨?_, below_set2 HF.out.1 (Nat.le_refl _) _ _⟩
        rw [HR.out]
end Go.Proofs.YtbihhdkmmlldnaaGreatDoor
namespace Go.Proofs.YtbihhdkmmlldnaaGreatDoor
set_option linter.unusedSimpArgs false
set_option linter.unusedVariables false
open Go Go.RowKit Go.Proofs.BerK Go.Proofs.MemK Go.Proofs.UtfK

/-- Pairs as cells. -/
def avc (r : List Av) : List Value := r.flatMap fun p => [.string ⟨p.1.toArray⟩, .string ⟨p.2.toArray⟩]
theorem avc_cons (p : Av) (r : List Av) : avc (p :: r) = .string ⟨p.1.toArray⟩ :: .string ⟨p.2.toArray⟩ :: avc r := rfl
theorem avc_len (r : List Av) : (avc r).length = 2 * r.length := by
  induction r with
  | nil => rfl
  | cons p r ih => rw [avc_cons, List.length_cons, List.length_cons, List.length_cons, ih]; omega
theorem avc_at (r : List Av) (j : Nat) (h : j < r.length) : (avc r)[j * 2]? = some (.string ⟨r[j].1.toArray⟩) ∧ (avc r)[j * 2 + 1]? = some (.string ⟨r[j].2.toArray⟩) := by
  induction r generalizing j with
  | nil => simp at h
  | cons p r ih =>
    cases j with
    | zero => simp [avc_cons]
    | succ j =>
      have := ih j (by simpa using h)
      rw [avc_cons, show (j + 1) * 2 = j * 2 + 2 by omega, show j * 2 + 2 + 1 = j * 2 + 1 + 2 by omega]
      simpa using this
theorem avc_set (r : List Av) (j : Nat) (h : j < r.length) (p : Av) : ((avc r).set (j * 2) (.string ⟨p.1.toArray⟩)).set (j * 2 + 1) (.string ⟨p.2.toArray⟩) = avc (r.set j p) := by
  induction r generalizing j with
  | nil => simp at h
  | cons q r ih =>
    cases j with
    | zero => simp [avc_cons]
    | succ j =>
      have := ih j (by simpa using h)
      rw [avc_cons, show (j + 1) * 2 = j * 2 + 2 by omega, show j * 2 + 2 + 1 = j * 2 + 1 + 2 by omega, List.set_cons_succ, List.set_cons_succ, List.set_cons_succ, List.set_cons_succ, List.set_cons_succ, avc_cons, this]
theorem avc_arr (r : List Av) (j : Nat) (h : j < r.length) (p : Av) : ((avc r).toArray.setIfInBounds (j * 2) (.string ⟨p.1.toArray⟩)).setIfInBounds (j * 2 + 1) (.string ⟨p.2.toArray⟩) = (avc (r.set j p)).toArray := by
  rw [← avc_set r j h p]; simp
def rowV (g n : Nat) : Value := .slice (some ⟨g, 0, none⟩) n n
def ovc (gs : List Nat) (D : List (List Av)) : List Value := List.zipWith (fun g r => rowV g r.length) gs D
theorem ovc_len (gs : List Nat) (D : List (List Av)) (h : gs.length = D.length) : (ovc gs D).length = D.length := by simp [ovc, h]
theorem ovc_at (gs : List Nat) (D : List (List Av)) (i : Nat) (h : i < gs.length) (h' : i < D.length) : (ovc gs D)[i]? = some (rowV gs[i] D[i].length) := by
  rw [ovc, List.getElem?_zipWith, List.getElem?_eq_getElem h, List.getElem?_eq_getElem h']
theorem ovc_snoc (gs : List Nat) (D : List (List Av)) (g : Nat) (r : List Av) (h : gs.length = D.length) : ovc (gs ++ [g]) (D ++ [r]) = ovc gs D ++ [rowV g r.length] := by
  unfold ovc
  rw [List.zipWith_append h]; rfl
theorem ovc_set (gs : List Nat) (D : List (List Av)) (k : Nat) (r : List Av) (hk : k < D.length) (hr : r.length = D[k].length) : ovc gs (D.set k r) = ovc gs D := by
  unfold ovc
  apply List.ext_getElem?
  intro i
  simp only [List.getElem?_zipWith]
  by_cases hi : i = k
  · subst hi
    cases gs[i]? with
    | none => rfl
    | some g => simp [hk, hr]
  · rw [List.getElem?_set_ne (fun e => hi e.symm)]

/-- A name's rows: the outer one in block g, m of its cells not yet laid, the others in the blocks gs. -/
structure DnBlk (w : World) (B : Nat) (g : Nat) (gs : List Nat) (D : List (List Av)) (m : Nat) (e1 e2 : TypeId) : Prop where
  base : B ≤ g
  len : gs.length = D.length
  outer : w.heap[g]? = some (.cells (ovc gs D ++ List.replicate m (Value.slice none 0 0)).toArray e2 (0, 0))
  rows : ∀ i (h : i < gs.length) (h' : i < D.length), B ≤ gs[i] ∧ gs[i] ≠ g ∧ w.heap[gs[i]]? = some (.cells (avc D[i]).toArray e1 (0, 0))
  nodup : gs.Nodup
theorem blk_below {w w' : World} {B g : Nat} {gs : List Nat} {D : List (List Av)} {m : Nat} {e1 e2 : TypeId} (h : DnBlk w B g gs D m e1 e2) (hb : Below w.heap.size w w') : DnBlk w' B g gs D m e1 e2 :=
  ⟨h.base, h.len, obj_below h.outer hb (obj_lt h.outer), fun i hi hi' => ⟨(h.rows i hi hi').1, (h.rows i hi hi').2.1, obj_below (h.rows i hi hi').2.2 hb (obj_lt (h.rows i hi hi').2.2)⟩, h.nodup⟩
theorem blk_heap {w w' : World} {B g : Nat} {gs : List Nat} {D : List (List Av)} {m : Nat} {e1 e2 : TypeId} (h : DnBlk w B g gs D m e1 e2) (hh : w'.heap = w.heap) : DnBlk w' B g gs D m e1 e2 :=
  ⟨h.base, h.len, by rw [hh]; exact h.outer, fun i hi hi' => by rw [hh]; exact h.rows i hi hi', h.nodup⟩
/-- A row more. -/
theorem blk_row {w : World} {B g : Nat} {gs : List Nat} {D : List (List Av)} {m : Nat} {e1 e2 : TypeId} (h : DnBlk w B g gs D (m + 1) e1 e2) (hB : B ≤ w.heap.size) (r : List Av) (M : Array Value) (hM : M = (avc r).toArray) :
    DnBlk ((w.alloc (.cells M e1)).setCell ⟨g, D.length, none⟩ (rowV w.heap.size r.length)) B g (gs ++ [w.heap.size]) (D ++ [r]) m e1 e2 := by
  subst hM
  have hg := obj_lt h.outer
  refine ⟨h.base, by simp [h.len], ?_, ?_, ?_⟩
  · have h1 := obj_set (obj_alloc h.outer (.cells (avc r).toArray e1)) D.length (rowV w.heap.size r.length)
    rw [h1]
    congr 2
    rw [ovc_snoc gs D _ _ h.len]
    apply Array.ext'
    simp only [Array.toList_setIfInBounds, List.toList_toArray]
    have hl := ovc_len gs D h.len
    rw [List.set_append_right _ _ (by omega), hl, Nat.sub_self, List.replicate_succ, List.set_cons_zero, List.append_assoc]
    rfl
  · intro i hi hi'
    by_cases hlt : i < D.length
    · have hlt' : i < gs.length := by rw [h.len]; exact hlt
      obtain ⟨a, b, c⟩ := h.rows i hlt' hlt
      rw [List.getElem_append_left hlt', List.getElem_append_left hlt]
      exact ⟨a, b, obj_set_other (obj_alloc c _) (p := ⟨g, D.length, none⟩) b _⟩
    · have hi2 : i = D.length := by simp at hi'; omega
      subst hi2
      have e1' : (gs ++ [w.heap.size])[D.length]'hi = w.heap.size := by simp [← h.len]
      have e2' : (D ++ [r])[D.length]'hi' = r := by simp
      rw [e1', e2']
      exact ⟨hB, by omega, obj_set_other (heap_alloc_new w _) (p := ⟨g, D.length, none⟩) (by show w.heap.size ≠ g; omega) _⟩
  · rw [List.nodup_append]
    refine ⟨h.nodup, by simp, ?_⟩
    intro a ha b hb
    obtain rfl := List.mem_singleton.1 hb
    obtain ⟨i, hi, rfl⟩ := List.mem_iff_getElem.1 ha
    have := obj_lt (h.rows i hi (by rw [← h.len]; exact hi)).2.2
    omega
/-- A pair is stored. -/
theorem blk_set {w : World} {B g : Nat} {gs : List Nat} {D : List (List Av)} {m : Nat} {e1 e2 : TypeId} (h : DnBlk w B g gs D m e1 e2) (k : Nat) (hk : k < gs.length) (hk' : k < D.length) (j : Nat) (hj : j < D[k].length) (p : Av) :
    DnBlk ((w.setCell ⟨gs[k], j * 2, none⟩ (.string ⟨p.1.toArray⟩)).setCell ⟨gs[k], j * 2 + 1, none⟩ (.string ⟨p.2.toArray⟩)) B g gs (D.set k (D[k].set j p)) m e1 e2 := by
  obtain ⟨a, b, c⟩ := h.rows k hk hk'
  refine ⟨h.base, by simp [h.len], ?_, ?_, h.nodup⟩
  · rw [ovc_set gs D k _ hk' (by simp)]
    exact obj_set_other (obj_set_other h.outer (p := ⟨gs[k], j * 2, none⟩) (fun e => b e.symm) _) (p := ⟨gs[k], j * 2 + 1, none⟩) (fun e => b e.symm) _
  · intro i hi hi'
    have hi2 : i < D.length := by simpa using hi'
    obtain ⟨a', b', c'⟩ := h.rows i hi hi2
    refine ⟨a', b', ?_⟩
    by_cases hik : i = k
    · subst hik
      have e : (D.set i (D[i].set j p))[i]'hi' = D[i].set j p := by simp
      rw [e, ← avc_arr D[i] j hj p]
      exact obj_set (obj_set c' (j * 2) _) (j * 2 + 1) _
    · have e : (D.set k (D[k].set j p))[i]'hi' = D[i] := List.getElem_set_ne (fun e => hik e.symm) _
      have hne : gs[i] ≠ gs[k] := fun e => hik ((List.getElem_inj h.nodup).1 e)
      rw [e]
      exact obj_set_other (obj_set_other c' (p := ⟨gs[k], j * 2, none⟩) hne _) (p := ⟨gs[k], j * 2 + 1, none⟩) hne _
theorem avAt_blk {w : World} {g : Nat} {r : List Av} {e : TypeId} (h : w.heap[g]? = some (.cells (avc r).toArray e (0, 0))) : AvAt w (rowV g r.length) r := by
  refine ⟨_, _, rfl, Nat.le_refl _, fun i hi => ⟨g, 0, rfl, obj_lt h, ?_, ?_⟩⟩
  · rw [Nat.zero_add]; exact obj_cell h (i * 2) _ (by simpa using (avc_at r i hi).1)
  · rw [Nat.zero_add]; exact obj_cell h (i * 2 + 1) _ (by simpa using (avc_at r i hi).2)
theorem dnAt_blk {w : World} {B g : Nat} {gs : List Nat} {D : List (List Av)} {e1 e2 : TypeId} (h : DnBlk w B g gs D 0 e1 e2) : DnAt w (rowV g D.length) D := by
  refine ⟨_, _, rfl, Nat.le_refl _, fun i hi => ?_⟩
  have hi' : i < gs.length := by rw [h.len]; exact hi
  refine ⟨g, 0, rowV gs[i] D[i].length, rfl, obj_lt h.outer, ?_, avAt_blk (h.rows i hi' hi).2.2⟩
  rw [Nat.zero_add]
  exact obj_cell h.outer i _ (by simpa using ovc_at gs D i hi' hi)
end Go.Proofs.YtbihhdkmmlldnaaGreatDoor
