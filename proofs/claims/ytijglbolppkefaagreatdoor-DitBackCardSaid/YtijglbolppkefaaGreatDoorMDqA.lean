/- Single bytes, and types, on both. -/
import Derived.Test.YtijglbolppkefaaGreatDoorFoldAE
import Derived.Test.YtijglbolppkefaaGreatDoorMLayw
import Derived.Lib.Bytealg
import Derived.Lib.Walk
import Derived.Test.YtijglbolppkefaaGreatDoorGenB
import Derived.StillTailTactics
import Derived.BigQuiet
import Derived.Deep.RegionHeld3
set_option linter.unusedVariables false
set_option linter.unusedSimpArgs false
set_option maxHeartbeats 25600000
set_option maxRecDepth 100000
namespace Go.Proofs.YtijglbolppkefaaGreatDoor
open Go.Proofs.Tryz
open Go Go.RowKit Go.Proofs.BerK Go.Proofs.MemK Go.Proofs.UtfK
variable {w w' : World} {v : Value} {r : List Av}
theorem zje {p:Prop} (h:p:=by
 go_wp2_with fail
 refine (HC.o _).mono ?_
 rintro e w1 ⟨rfl,hw⟩
 obtain rfl:=hw.symm
 go_wp2
 exact ⟨⟨k+1,by omega,by go_num,H.o⟩,by simp [intOf];omega⟩):p:=h
theorem znP {p:Prop} (h:p:=by
 rw [hc] at hb g3
 rcases g3 with ⟨g3,g4,g5,g6⟩ | ⟨g3,g4,g5,g6,g7⟩ | ⟨g3,g4,g5,g6,g7,g8⟩ | ⟨g3,g4,g5,g6,g7,g8,g9⟩
 all_goals
  go_wp2
  all_goals first
   | (go_ret;exact zag H.o)
   | (exfalso;rename_i hx;simp only [Bool.not_eq_eq_eq_not,Bool.not_false,decide_eq_true_eq] at hx;omega)):p:=h
theorem znQ {p:Prop} (h:p:=by
 go_enter func212,ntmps212
 go_wp2
 all_goals (go_ret;refine zag ?_;rw [H.o,Bool.eq_iff_iff];simp only [Bool.or_eq_true,Bool.and_eq_true,decide_eq_true_eq,beq_iff_eq,Bool.false_eq_true,iff_false,iff_true] <;> omega)):p:=h
theorem znR {p:Prop} (h:p:=by
 go_enter func194,ntmps194
 go_wp2
 go_ret
 exact zag H.o):p:=h
theorem znS {p:Prop} (h:p:=by
 go_wp2
 exact ⟨⟨k+1,by omega,by go_num,H.o.1,fun _=>H.o.2⟩,by simp [intOf];omega⟩):p:=h
theorem znT {p:Prop} (h:p:=by
 have:s.data.toList=[]:=List.eq_nil_of_length_eq_zero (by rw [zl];exact h)
 rw [this];rfl):p:=h
def za1 (b:Bool) (w:World) (en:Ending) (w':World):Prop:=en=.returned (.bool b)/\w'=w
theorem zag {a b:Bool} (h:b=a):za1 b w (.returned (.bool a)) w:=by subst h;exact ⟨rfl,rfl⟩
theorem zjf (c:Nat) (w:World):Calls prog 222 #[.int .u8 (c:Nat)] w (za1 (zW c) w):=by
 go_enter func222,ntmps222
 go_wp2
 all_goals (go_ret;refine zag ?_;rw [Bool.eq_iff_iff];simp only [zW,Bool.or_eq_true,Bool.and_eq_true,decide_eq_true_eq,beq_iff_eq,Bool.false_eq_true,iff_false,iff_true] <;> omega)
theorem znU (c:Nat) (w:World):Calls prog 211 #[.int .u8 (c:Nat)] w (za1 (zau c) w):=by
 go_enter func211,ntmps211
 go_wp2
 all_goals (go_ret;refine zag ?_;rw [Bool.eq_iff_iff];simp only [zau,Bool.or_eq_true,Bool.and_eq_true,decide_eq_true_eq,beq_iff_eq,Bool.false_eq_true,iff_false,iff_true] <;> omega)
theorem znV (c:Nat) (w:World):Calls prog 158 #[.int .u8 (c:Nat)] w (za1 (spN c) w):=by
 go_enter func158,ntmps158
 go_wp2
 all_goals (go_ret;refine zag ?_;rw [Bool.eq_iff_iff];simp only [spN,Bool.or_eq_true,Bool.and_eq_true,decide_eq_true_eq,beq_iff_eq,Bool.false_eq_true,iff_false,iff_true] <;> omega)
def zcE (n:Int) (w:World) (en:Ending) (w':World):Prop:=en=.returned (.int .i64 n)/\w'=w
theorem znW (s:ByteArray) (c:Int) (w:World):Calls prog 240 #[.string s,.int .u8 c] w (zcE (Lib.indexByte s.data.toList c.toNat.toUInt8) w):=by
 go_enter func240,ntmps240
 go_wp2
 rw [run_callFunc_extern func249 Kr Kr Kr (e:=Extern.BytealgIndexByte.indexByte) Kr,Lib.run_indexByteString]
 simp only [Result.andThen]
 rw [Oper.upon_value]
 go_wp2
 go_ret
 exact ⟨rfl,rfl⟩
theorem znX (s:ByteArray) (c:Int) (w:World):Calls prog 230 #[.string s,.int .u8 c] w (zcE (Lib.indexByte s.data.toList c.toNat.toUInt8) w):=by
 go_enter func230,ntmps230
 go_wp2_with (go_at_call 240;refine (znW _ _ _).mono ?_;rintro e w' ⟨rfl,rfl⟩)
 go_ret
 exact ⟨rfl,rfl⟩
theorem zwg:∀ c:Fin 256,decide (0<=Lib.indexByte [44,43,34,92,60,62,59,61] (UInt8.ofNat c.val))=spN c.val:=by decide +kernel
theorem zwh:∀ c:Fin 256,decide (0<=Lib.indexByte [44,43,34,92,60,62,59,61,32,35] (UInt8.ofNat c.val))=zaO c.val:=by decide +kernel
theorem zwi (c:Nat) (h:c<256):decide (0<=Lib.indexByte [44,43,34,92,60,62,59,61] (UInt8.ofNat c))=spN c:=zwg ⟨c,h⟩
theorem zwj (c:Nat) (h:c<256):decide (0<=Lib.indexByte [44,43,34,92,60,62,59,61,32,35] (UInt8.ofNat c))=zaO c:=zwh ⟨c,h⟩
theorem znY (a b:Bool):mkN a b 32=(a || b):=rfl
theorem znZ (a b:Bool):mkN a b 35=a:=rfl
theorem zjg (a b:Bool) (c:Nat) (h:c≠32) (h2:c≠35):mkN a b c=spN c:=by simp [mkN,h,h2]
theorem zn0 (s:ByteArray) (i:Nat) (hi:i<s.size) (hs:s.size<=140737488355328) (w:World) :
  Calls prog 212 #[.string s,.int .i64 (i:Nat)] w (za1 (mkN (decide (i=0)) (decide (i+1=s.size)) s[i].toNat) w):=by
 have hb:s[i].toNat<256:=s[i].toNat_lt
 obtain ⟨c,hc⟩:=Ex (s[i].toNat)
 rw [hc] at hb
 have h1:(i:Int)<(s.size:Int):=by omega
 by_cases bA:c=32
 ·subst bA
  have q:((32:Int)==32)=true:=rfl
  have H:=Hy (show mkN (decide (i=0)) (decide (i+1=s.size)) s[i].toNat=(decide (i=0) || decide (i+1=s.size)) by rw [hc];rfl)
  exact znQ
 have q:((c:Int)==32)=false:=by rw [beq_eq_false_iff_ne];omega
 by_cases iD:c=35
 ·subst iD
  have H:=Hy (show mkN (decide (i=0)) (decide (i+1=s.size)) s[i].toNat=decide (i=0) by rw [hc];rfl)
  clear bA
  exact znQ
 have q2:((c:Int)==35)=false:=by rw [beq_eq_false_iff_ne];omega
 have H:=Hy (show mkN (decide (i=0)) (decide (i+1=s.size)) s[i].toNat=decide (0<=Lib.indexByte [44,43,34,92,60,62,59,61] (UInt8.ofNat c)) by rw [hc,zjg _ _ _ bA iD,zwi c hb])
 have HC:=Hy (znX ⟨#[44,43,34,92,60,62,59,61]⟩ (c:Nat))
 clear bA iD
 go_enter func212,ntmps212
 go_wp2_with fail
 refine (HC.o _).mono ?_
 rintro e w' ⟨rfl,hw⟩
 obtain rfl:=hw.symm
 go_wp2
 go_ret
 exact zag H.o
theorem zjh (s:ByteArray) (p:Nat) (h:p<s.size) (hd:tcN s[p].toNat=false):tyL s.data.toList=false:=by
 have hl:=zl s
 have:(s.data.toList.all fun c=>tcN c.toNat)=false:=by
  rw [List.all_eq_false]
  exact ⟨s[p],List.getElem_mem (l:=s.data.toList) (n:=p) Om,by simp [hd]⟩
 simp [tyL,this]
theorem zji (s:ByteArray) (h:s.size=0):tyL s.data.toList=false:=by
 exact znT
theorem zjj (s:ByteArray) (h:64<s.size):tyL s.data.toList=false:=by
 have hl:=zl s
 have:decide (s.data.toList.length<=64)=false:=by simp;omega
 simp only [tyL,this,Bool.and_false,Bool.false_and]
theorem zfA (p:Nat->Bool) (s:ByteArray) (h:0<s.size):hdP p s.data.toList=p s[0].toNat:=by
 have hh:=zgC s h
 cases hq:s.data.toList with
 | nil=>rw [hq] at hh;cases hh
 | cons a l=>rw [hq] at hh;injection hh with hh;rw [<- hh];rfl
theorem zjk (s:ByteArray) (h:0<s.size) (hd:zW s[0].toNat=false):tyL s.data.toList=false:=by
 rw [tyL,zfA _ s h,hd];rfl
theorem zjl (s:ByteArray) (h:0<s.size) (h2:s.size<=64) (hd:zW s[0].toNat=true) (af:(s.data.toList.take s.size).all (fun c=>tcN c.toNat)=true):tyL s.data.toList=true:=by
 have hl:=zl s
 rw [List.take_of_length_le Om] at af
 rw [tyL,zfA _ s h,hd,af]
 simp;omega
theorem zgK (s:ByteArray) (k:Nat) (h:k<s.size) (p:UInt8->Bool) (h1:(s.data.toList.take k).all p=true) (h2:p s[k]=true):(s.data.toList.take (k+1)).all p=true:=by
 rw [zdb s k h,List.all_append,h1];simp [h2]
theorem zjm (c:Nat) (h:zW c=true):tcN c=true:=by simp [tcN,h]
theorem zjn (c:Nat) (h:zW c=false) (h2:tcN c=true):(48<=c/\c<=57)\/c=45:=by
 simp only [tcN,h,Bool.false_or,Bool.or_eq_true,Bool.and_eq_true,decide_eq_true_eq] at h2;exact h2
theorem zjo (c:Nat) (h:zW c=false) (h2:tcN c=false):(c<48\/57<c)/\c≠45:=by
 simp only [tcN,h,Bool.false_or,Bool.or_eq_false_iff,Bool.and_eq_false_iff,decide_eq_false_iff_not] at h2;omega
theorem zbW (s:ByteArray) (h:0<s.size):s.toList.isEmpty=false:=by
 rw [ByteArray.toList_eq]
 cases hq:s.data.toList with
 | nil=>have:=zl s;rw [hq] at this;simp at this;omega
 | cons a l=>rfl
theorem zcF (s:ByteArray) (h:s.size=0):s.toList.isEmpty=true:=by
 rw [ByteArray.toList_eq]
 exact znT
theorem zn1 (s:ByteArray) (w:World):Calls prog 194 #[.string s] w (za1 (tyL s.data.toList) w):=by
 by_cases h0:s.size=0
 ·have dS:=zcF s h0
  have H:=Hy (zji s h0)
  clear h0
  exact znR
 have dS:=zbW s Om
 by_cases pl:64<s.size
 ·have H:=Hy (zjj s pl)
  have hq:(64:Int)<(s.size:Int):=by omega
  clear h0 pl
  exact znR
 have hq:(s.size:Int)<=64:=by omega
 have gj:(0:Int)<(s.size:Int):=by omega
 have hp:0<s.size:=by omega
 by_cases hl:zW s[0].toNat=true
 ·have mh:=Hy (zjf s[0].toNat)
  rw [hl] at mh
  have HB:=Hy (zjh s)
  have HK:=Hy (zjl s hp Om hl)
  clear h0 pl hl
  go_enter func194,ntmps194
  go_wp2_with fail
  refine (mh.o _).mono ?_
  rintro e w1 ⟨rfl,hw⟩
  obtain rfl:=hw.symm
  go_wp2
  go_loop [20] (fun v=>∃ k:Nat,k<=s.size/\v=.int .i64 (k:Nat)/\(s.data.toList.take k).all (fun c=>tcN c.toNat)=true) (fun v=>s.size - (intOf v).toNat)
  case atStart=>exact ⟨0,by omega,rfl,rfl⟩
  case round =>
   obtain ⟨k,hk,rfl,af⟩:=hrel
   by_cases aj:k<s.size
   ·have hb:s[k].toNat<256:=s[k].toNat_lt
    have bh:(k:Int)<(s.size:Int):=by omega
    have HC:=Hy (zjf s[k].toNat)
    by_cases hd:tcN s[k].toNat=true
    ·have H:=Hy (zgK s k aj _ af hd)
     by_cases cZ:zW s[k].toNat=true
     ·rw [cZ] at HC
      clear af hd cZ
      exact zje
     have fw:zW s[k].toNat=false:=by simpa using cZ
     rw [fw] at HC
     obtain ⟨c,hc⟩:=Ex (s[k].toNat)
     have hw:=zjn c (hc ▸ fw) (hc ▸ hd)
     have rm:((48:Int)<=(c:Int)/\(c:Int)<=57)\/((c:Int)<48/\((c:Int) != 45)=false):=by simp;omega
     clear af hd cZ fw hw
     rw [hc] at HC hb
     rcases rm with ⟨g1,g2⟩ | ⟨g1,g2⟩
     ·exact zje
     exact zje
    have pm:tcN s[k].toNat=false:=by simpa using hd
    have H:=Hy (HB.o k aj pm)
    have fw:zW s[k].toNat=false:=by
     cases hq:zW s[k].toNat
     ·rfl
     rw [zjm _ hq] at pm;cases pm
    rw [fw] at HC
    obtain ⟨c,hc⟩:=Ex (s[k].toNat)
    have hw:=zjo c (hc ▸ fw) (hc ▸ pm)
    have rm:((c:Int)<48\/(48:Int)<=(c:Int)/\(57:Int)<(c:Int)):=by omega
    have bL:((c:Int) != 45)=true:=by simp;omega
    clear af hd fw hw pm
    rw [hc] at HC hb
    rcases rm with g1 | ⟨g1,g2⟩
    all_goals
     go_wp2_with fail
     refine (HC.o _).mono ?_
     rintro e w1 ⟨rfl,hw⟩
     obtain rfl:=hw.symm
     go_wp2
     go_ret
     exact zag H.o
   obtain rfl:k=s.size:=by omega
   have H:=Hy (HK.o af)
   clear af
   go_wp2
   go_ret
   exact zag H.o
 have fw:zW s[0].toNat=false:=by simpa using hl
 have mh:=Hy (zjf s[0].toNat)
 rw [fw] at mh
 have H:=Hy (zjk s hp fw)
 clear h0 pl hl fw
 go_enter func194,ntmps194
 go_wp2_with fail
 refine (mh.o _).mono ?_
 rintro e w1 ⟨rfl,hw⟩
 obtain rfl:=hw.symm
 go_wp2
 go_ret
 exact zag H.o
theorem zwk (s:ByteArray) (h1:1<=s.size) (h2:s.size<=64) (hd:hdP zW s.data.toList=true) (af:(s.data.toList.take s.size).all (fun c=>tcN c.toNat)=true):tyL s.data.toList=true:=by
 rw [zfA _ s Om] at hd
 exact zjl s Om h2 hd af
theorem zwl (c:Nat):(zW c=true/\tcN c=true/\((97<=(c:Int)/\(c:Int)<=122)\/((c:Int)<97/\65<=(c:Int)/\(c:Int)<=90))) \/
  (zW c=false/\tcN c=true/\(((c:Int)<97/\(c:Int)<65/\48<=(c:Int)/\(c:Int)<=57)\/((c:Int)<97/\(c:Int)<65/\(c:Int)<48/\((c:Int)==45)=true))) \/
  (zW c=false/\tcN c=false/\(((c:Int)<97/\(c:Int)<65/\(c:Int)<48/\((c:Int)==45)=false)\/((c:Int)<97/\(c:Int)<65/\48<=(c:Int)/\57<(c:Int)/\((c:Int)==45)=false) \/
   ((c:Int)<97/\65<=(c:Int)/\90<(c:Int)/\48<=(c:Int)/\57<(c:Int)/\((c:Int)==45)=false)\/(97<=(c:Int)/\122<(c:Int)/\65<=(c:Int)/\90<(c:Int)/\48<=(c:Int)/\57<(c:Int)/\((c:Int)==45)=false))):=by
 by_cases h:zW c=true
 ·refine .inl ⟨h,zjm c h,?_⟩
  simp only [zW,Bool.or_eq_true,Bool.and_eq_true,decide_eq_true_eq] at h;omega
 have h':zW c=false:=by simpa using h
 have g:=h'
 simp only [zW,Bool.or_eq_false_iff,Bool.and_eq_false_iff,decide_eq_false_iff_not] at g
 cases ht:tcN c
 ·have:=zjo c h' ht
  refine .inr (.inr ⟨h',rfl,?_⟩)
  simp only [beq_eq_false_iff_ne,ne_eq];omega
 have:=zjn c h' ht
 refine .inr (.inl ⟨h',rfl,?_⟩)
 simp only [beq_iff_eq];omega
theorem zn2 (s:ByteArray) (hs:s.size<=140737488355328) (w:World):Calls prog 154 #[.string s] w (za1 (tyL s.data.toList) w):=by
 have HB:=Hy (zjh s)
 have HH:=Hy (zjk s)
 have HF:=Hy (zwk s)
 have HL:=Hy (zjj s)
 have HN:=Hy (zji s)
 have HP:=Hy (zfA zW s)
 go_enter func154,ntmps154
 go_wp2
 go_loop [3] (fun v=>∃ k:Nat,k<=s.size/\v=.int .i64 (k:Nat)/\(s.data.toList.take k).all (fun c=>tcN c.toNat)=true/\(0<k->hdP zW s.data.toList=true)) (fun v=>s.size - (intOf v).toNat)
 case atStart=>exact ⟨0,by omega,rfl,rfl,by omega⟩
 case round =>
  obtain ⟨k,hk,rfl,af,hh⟩:=hrel
  by_cases aj:k<s.size
  ·have hb:s[k].toNat<256:=s[k].toNat_lt
   have bh:(k:Int)<(s.size:Int):=by omega
   have kV:0<s.size:=by omega
   rcases zwl s[k].toNat with ⟨g1,g2,g3⟩ | ⟨g1,g2,g3⟩ | ⟨g1,g2,g3⟩
   ·have H:=Hy (An (zgK s k aj _ af g2) (show hdP zW s.data.toList=true from if h0:k=0 then by subst h0;rw [zfA _ s kV];exact g1 else hh Om))
    clear af hh g1 g2 kV
    obtain ⟨c,hc⟩:=Ex (s[k].toNat)
    rw [hc] at hb g3
    rcases g3 with ⟨g3,g4⟩ | ⟨g3,g4,g5⟩
    all_goals
     exact znS
   ·by_cases h0:k=0
    ·subst h0
     have H:=Hy (HH.o kV g1)
     clear af hh g1 g2 kV
     obtain ⟨c,hc⟩:=Ex (s[0].toNat)
     rw [hc] at hb g3
     rcases g3 with ⟨g3,g4,g5,g6⟩ | ⟨g3,g4,g5,g6⟩
     all_goals
      go_wp2
      go_ret
      exact zag H.o
    have H:=Hy (An (zgK s k aj _ af g2) (hh Om))
    have cX:((k:Int)==0)=false:=by rw [beq_eq_false_iff_ne];omega
    clear af hh g1 g2 kV h0
    obtain ⟨c,hc⟩:=Ex (s[k].toNat)
    rw [hc] at hb g3
    rcases g3 with ⟨g3,g4,g5,g6⟩ | ⟨g3,g4,g5,g6⟩
    all_goals
     exact znS
   have H:=Hy (HB.o k aj g2)
   clear af hh g1 g2 kV
   by_cases h0:k=0
   ·subst h0
    obtain ⟨c,hc⟩:=Ex (s[0].toNat)
    exact znP
   have cX:((k:Int)==0)=false:=by rw [beq_eq_false_iff_ne];omega
   clear h0
   obtain ⟨c,hc⟩:=Ex (s[k].toNat)
   exact znP
  obtain rfl:k=s.size:=by omega
  have hw:((s.size:Int)<1/\tyL s.data.toList=false)\/(1<=(s.size:Int)/\(s.size:Int)<=64/\tyL s.data.toList=true)\/(1<=(s.size:Int)/\64<(s.size:Int)/\tyL s.data.toList=false):=by
   by_cases h0:s.size=0
   ·exact .inl ⟨by omega,HN.o h0⟩
   by_cases pl:64<s.size
   ·exact .inr (.inr ⟨by omega,by omega,HL.o pl⟩)
   exact .inr (.inl ⟨by omega,by omega,HF.o Om Om (hh Om) af⟩)
  clear af hh
  rcases hw with ⟨g1,g2⟩ | ⟨g1,g2,g3⟩ | ⟨g1,g2,g3⟩
  ·have H:=Hy g2
   clear g2
   go_wp2
   go_ret
   exact zag H.o
  ·have H:=Hy g3
   clear g3
   go_wp2
   go_ret
   exact zag (H.o.trans (by first | rfl | (rw [eq_comm,decide_eq_true_eq];omega)))
  have H:=Hy g3
  clear g3
  go_wp2
  go_ret
  exact zag (H.o.trans (by first | rfl | (rw [eq_comm,decide_eq_false_iff_not];omega)))
theorem zn3 (s:ByteArray) (k:Nat) (h:k<s.size):egL (decide (k=0)) (s.data.toList.drop k)=e1L (decide (k=0)) (decide (k+1=s.size)) s[k]++egL (decide (k+1=0)) (s.data.toList.drop (k+1)):=by
 have hl:=zl s
 rw [zO s.data.toList k Om,egL]
 have e1:(s.data.toList.drop (k+1)).isEmpty=decide (k+1=s.size):=by
  rw [Bool.eq_iff_iff,List.isEmpty_iff,decide_eq_true_eq,<- List.length_eq_zero_iff,List.length_drop];omega
 have e2:decide (k+1=0)=false:=by simp
 rw [e1,e2];rfl
theorem zn4 (s:ByteArray) (f:Bool):egL f (s.data.toList.drop s.size)=[]:=by
 rw [List.drop_of_length_le (by rw [zl];exact Nat.le_refl _)];rfl
theorem zeE (f l:Bool) (c:UInt8) (h:zau c.toNat=true):e1L f l c=[92,hxD (c.toNat/16),hxD (c.toNat%16)]:=by rw [e1L,if_pos h]
theorem zeF (f l:Bool) (c:UInt8) (h:zau c.toNat=false) (h2:mkN f l c.toNat=true):e1L f l c=[92,c]:=by rw [e1L,if_neg (by simp [h]),if_pos h2]
theorem zeG (f l:Bool) (c:UInt8) (h:zau c.toNat=false) (h2:mkN f l c.toNat=false):e1L f l c=[c]:=by rw [e1L,if_neg (by simp [h]),if_neg (by simp [h2])]
def zfB:ByteArray:=⟨#[48,49,50,51,52,53,54,55,56,57,97,98,99,100,101,102]⟩
theorem zwm:∀ n:Fin 16,zfB[n.val]'(show n.val<16 from n.isLt)=hxD n.val:=by decide +kernel
theorem zwn:∀ c:Fin 256,bits BinOp.and IntKind.u8 ((c.val:Nat):Int) 15=((c.val:Nat):Int)%16:=by decide +kernel
theorem zn5 (n:Int) (h0:0<=n) (h:n<16):zfB[n.toNat]'(show n.toNat<16 by omega)=hxD n.toNat:=zwm ⟨n.toNat,by omega⟩
theorem zn6 (s:ByteArray) (hm:s.size<=35184372088832) (w:World) :
  Calls prog 187 #[.string s] w (zG (esL s.data.toList) w):=by
 obtain ⟨i0,hi,bO,bi,ce⟩:=info_parts Tryz.info5
 have HI:=Hy (An hi (An bO (An bi ce)))
 clear hi bO bi ce
 go_enter func187,ntmps187
 go_wp2_with (at_make;refine wpList_make_own _ rfl _ _ 176 rfl w.heap.size 5 i0 (.int .u8 0) 1 underlying176 HI.o.1 HI.o.2.1 HI.o.2.2.1 _ _ _ s.size rfl rfl ?e1 ?b0 ?b1 ?b2 ?_)
 case e1=>rfl
 case b0=>rw [HI.o.2.2.2];omega
 case b1=>unfold maxLen;omega
 case b2=>omega
 intro w1 bS bI
 have au:Below w.heap.size w w1:=(Br _).grown bI Lr (fun k hk=>by cases hk)
 have H1:=Hy (An bS au)
 clear bS au bI
 go_wp2
 go_loopw [3,11] (fun o v wr=>∃ (k:Nat) (X:Bs),k<=s.size/\v=.int .i64 (k:Nat)/\wr.ownsRow w.heap.size 5 1 o X.length (bc X)/\Below w.heap.size w wr/\X.length<=3*k /\
  X++egL (decide (k=0)) (s.data.toList.drop k)=esL s.data.toList) (fun _ v _=>s.size - (intOf v).toNat)
 case atStart=>exact ⟨0,[],by omega,rfl,H1.o.1,H1.o.2,by simp,rfl⟩
 case round =>
  obtain ⟨k,X,hk,rfl,ab,hb,hX,hinv⟩:=hrel
  by_cases aj:k<s.size
  ·have bh:(k:Int)<(s.size:Int):=by omega
   have h8:s[k].toNat<256:=s[k].toNat_lt
   have HB:=Hy (znU s[k].toNat)
   rw [zn3 s k aj] at hinv
   cases eh:zau s[k].toNat with
   | true =>
    rw [eh] at HB
    rw [zeE _ _ _ eh,<- List.append_assoc] at hinv
    have H:=Hy (An ab (An hb hinv))
    clear eh ab hb hinv
    obtain ⟨x,hx⟩:=Ex (s[k])
    rw [hx] at HB H h8
    go_wp2_with fail
    refine (HB.o _).mono ?_
    rintro e w2 ⟨rfl,hw⟩
    obtain rfl:=hw.symm
    go_wp2
    have gj:((x.toNat:Int)/16)<16:=by omega
    have dG:(0:Int)<=(x.toNat:Int)/16:=by omega
    have mS:=zwn ⟨x.toNat,h8⟩
    have xj:((x.toNat:Int)%16)<16:=by omega
    have Io:(0:Int)<=(x.toNat:Int)%16:=by omega
    simp only [] at mS
    go_region_law (refine znL rfl (.tmp 24) (.tmp 31) 176 5 rfl w.heap.size 1 1 (.int .u8 0) Tryz.info5 underlying176 rfl (by decide) wr.drew 3 [_,_,_] rfl rfl (by intro u hu;simp at hu;rcases hu with rfl | rfl | rfl <;> rfl) u3 X.length (bc X) rfl _ rfl rfl (zaZ H.o.1 rfl) (by unfold maxLen;omega) (by omega) H.o.2.1.size ?_;intro v' w' h1 h2)
    all_goals
     have HV:=Hy (An h1 h2)
     clear h1 h2
     go_wp2
     have e1:=zn5 ((x.toNat:Int)/16) dG gj
     have e2:=zn5 ((x.toNat:Int)%16) Io xj
     refine ⟨⟨k+1,X++[92,hxD (x.toNat/16),hxD (x.toNat%16)],by omega,by go_num,?_,H.o.2.1.trans ((Br wr).drew.trans HV.o.2),by simp;omega,H.o.2.2⟩,by simp [intOf];omega⟩
     rw [zbU,List.length_append]
     have e3:((x.toNat:Int)/16).toNat=x.toNat/16:=by omega
     have e4:((x.toNat:Int)%16).toNat=x.toNat%16:=by omega
     rw [<- (e1.trans (congrArg hxD e3)),<- (e2.trans (congrArg hxD e4))]
     exact HV.o.1
   | false =>
    rw [eh] at HB
    have HM:=Hy (zn0 s k aj Om)
    cases cC:mkN (decide (k=0)) (decide (k+1=s.size)) s[k].toNat with
    | true =>
     rw [cC] at HM
     rw [zeF _ _ _ eh cC,<- List.append_assoc] at hinv
     have H:=Hy (An ab (An hb hinv))
     clear eh cC ab hb hinv
     obtain ⟨x,hx⟩:=Ex (s[k])
     rw [hx] at HB H h8
     go_wp2_with fail
     refine (HB.o _).mono ?_
     rintro e w2 ⟨rfl,hw⟩
     obtain rfl:=hw.symm
     go_wp2_with fail
     refine (HM.o _).mono ?_
     rintro e w2 ⟨rfl,hw⟩
     obtain rfl:=hw.symm
     go_wp2_with (at_builtin;refine zaj rfl (.tmp 37) (.tmp 39) 176 5 rfl w.heap.size 1 1 (.int .u8 0) Tryz.info5 underlying176 rfl De 2 [.int .u8 92,.int .u8 (x.toNat:Nat)] rfl ?c0 _ X.length _ rfl _ rfl ?c3 H.o.1 ?c1 ?c2 H.o.2.1.size ?_)
     case c0=>intro u hu;simp at hu;rcases hu with rfl | rfl <;> rfl
     case c1=>unfold maxLen;omega
     case c2=>omega
     case c3=>rfl
     intro v' w' h1 h2
     go_wp2
     refine ⟨⟨k+1,X++[92,x],by omega,by go_num,?_,H.o.2.1.trans h2,by simp;omega,H.o.2.2⟩,by simp [intOf];omega⟩
     rw [zbU,List.length_append];exact h1
    | false =>
     rw [cC] at HM
     rw [zeG _ _ _ eh cC,<- List.append_assoc] at hinv
     have H:=Hy (An ab (An hb hinv))
     clear eh cC ab hb hinv
     obtain ⟨x,hx⟩:=Ex (s[k])
     rw [hx] at HB H h8
     go_wp2_with fail
     refine (HB.o _).mono ?_
     rintro e w2 ⟨rfl,hw⟩
     obtain rfl:=hw.symm
     go_wp2_with fail
     refine (HM.o _).mono ?_
     rintro e w2 ⟨rfl,hw⟩
     obtain rfl:=hw.symm
     go_wp2_with (at_builtin;refine zaj rfl (.tmp 17) (.tmp 19) 176 5 rfl w.heap.size 1 1 (.int .u8 0) Tryz.info5 underlying176 rfl De 1 [.int .u8 (x.toNat:Nat)] rfl ?c0 _ X.length _ rfl _ rfl ?c3 H.o.1 ?c1 ?c2 H.o.2.1.size ?_)
     case c0=>intro u hu;simp at hu;subst hu;rfl
     case c1=>unfold maxLen;omega
     case c2=>omega
     case c3=>rfl
     intro v' w' h1 h2
     go_wp2
     refine ⟨⟨k+1,X++[x],by omega,by go_num,?_,H.o.2.1.trans h2,by simp;omega,H.o.2.2⟩,by simp [intOf];omega⟩
     rw [zbU,List.length_append];exact h1
  obtain rfl:k=s.size:=by omega
  rw [zn4,List.append_nil] at hinv
  subst hinv
  have hc:=zgH (P:=prog) (src:=176) (dst:=9) underlying176 underlying5 underlying9 ab
  have H:=Hy hb
  clear hb ab
  go_wp2
  go_ret
  exact ⟨rfl,H.o⟩
theorem zwo:∀ n:Fin 16,zfB.extract n.val (n.val+1)=⟨#[hxD n.val]⟩:=by decide +kernel
theorem zn7 (n:Int) (h0:0<=n) (h:n<16):zfB.extract n.toNat (n+1).toNat=⟨#[hxD n.toNat]⟩:=by
 have:=zwo ⟨n.toNat,by omega⟩
 rw [show (n+1).toNat=n.toNat+1 by omega];exact this
theorem zwp:∀ c:Fin 256,IntKind.u8.wrap (((c.val:Nat):Int)/16)=((c.val:Nat):Int)/16:=by decide +kernel
theorem zwq:∀ c:Fin 256,IntKind.u8.wrap (((c.val:Nat):Int)/16+1)=((c.val:Nat):Int)/16+1:=by decide +kernel
theorem zwr:∀ c:Fin 256,IntKind.u8.wrap (((c.val:Nat):Int)%16)=((c.val:Nat):Int)%16:=by decide +kernel
theorem zws:∀ c:Fin 256,IntKind.u8.wrap (((c.val:Nat):Int)%16+1)=((c.val:Nat):Int)%16+1:=by decide +kernel
theorem zaE (a b:Bs):(⟨a.toArray⟩:ByteArray)++⟨b.toArray⟩=⟨(a++b).toArray⟩:=ByteArray.mk_append_mk a b
theorem zgL (X:Bs) (a:UInt8):(⟨X.toArray⟩:ByteArray)++⟨#[a]⟩=⟨(X++[a]).toArray⟩:=zaE X [a]
theorem zn8 (X:Bs) (a b:UInt8):(⟨X.toArray⟩:ByteArray)++⟨#[a]⟩++⟨#[b]⟩=⟨(X++[a,b]).toArray⟩:=by
 rw [zgL,zgL,List.append_assoc];rfl
theorem zwt (X:Bs) (a b c:UInt8):(⟨X.toArray⟩:ByteArray)++⟨#[a]⟩++⟨#[b]⟩++⟨#[c]⟩=⟨(X++[a,b,c]).toArray⟩:=by
 rw [zn8,zgL,List.append_assoc];rfl
theorem zn9 (s:ByteArray) (k:Nat) (h:k<s.size):s.extract k (k+1)=⟨#[s[k]]⟩:=by
 have hl:=zl s
 have h1:(s.extract k (k+1)).data.toList=[s[k]]:=by
  rw [Lib.extract_data,show k+1 - k=1 by omega,zO s.data.toList k Om];rfl
 rw [<- zbD (s.extract k (k+1)),h1]
theorem zwu (k n c:Nat) (h:mkN (decide (k=0)) (decide (k+1=n)) c=true) :
  spN c=true\/(spN c=false/\((k:Int)==0)=true/\((c:Int)==32)=true)\/(spN c=false/\((k:Int)==0)=true/\((c:Int)==32)=false/\((c:Int)==35)=true) \/
   (spN c=false/\((k:Int)==0)=false/\((k:Int)==(n:Int) - 1)=true/\((c:Int)==32)=true):=by
 by_cases bA:c=32
 ·subst bA
  rw [znY,Bool.or_eq_true,decide_eq_true_eq,decide_eq_true_eq] at h
  by_cases hk:k=0
  ·exact .inr (.inl ⟨rfl,by simp;omega,rfl⟩)
  exact .inr (.inr (.inr ⟨rfl,by simp;omega,by simp;omega,rfl⟩))
 by_cases iD:c=35
 ·subst iD
  rw [znZ,decide_eq_true_eq] at h
  exact .inr (.inr (.inl ⟨rfl,by simp;omega,rfl,rfl⟩))
 rw [zjg _ _ _ bA iD] at h
 exact .inl h
theorem zwv (k n c:Nat) (h:mkN (decide (k=0)) (decide (k+1=n)) c=false) :
  (spN c=false/\((k:Int)==0)=true/\((c:Int)==32)=false/\((c:Int)==35)=false/\∃ b,((k:Int)==(n:Int) - 1)=b)\/(spN c=false/\((k:Int)==0)=false/\((c:Int)==32)=false/\∃ b,((k:Int)==(n:Int) - 1)=b) \/
   (spN c=false/\((k:Int)==0)=false/\((c:Int)==32)=true/\∃ b,((k:Int)==(n:Int) - 1)=b/\b=false):=by
 by_cases bA:c=32
 ·subst bA
  rw [znY,Bool.or_eq_false_iff,decide_eq_false_iff_not,decide_eq_false_iff_not] at h
  exact .inr (.inr ⟨rfl,by simp;omega,rfl,false,by simp;omega,rfl⟩)
 by_cases iD:c=35
 ·subst iD
  rw [znZ,decide_eq_false_iff_not] at h
  exact .inr (.inl ⟨rfl,by simp;omega,rfl,_,rfl⟩)
 rw [zjg _ _ _ bA iD] at h
 by_cases hk:k=0
 ·exact .inl ⟨h,by simp;omega,by simp;omega,by simp;omega,_,rfl⟩
 exact .inr (.inl ⟨h,by simp;omega,by simp;omega,_,rfl⟩)
theorem zww (s:ByteArray) (hm:s.size<=35184372088832) (w:World) :
  Calls prog 130 #[.string s] w (zG (esL s.data.toList) w):=by
 go_enter func130,ntmps130
 go_wp2
 go_loopw [4,5] (fun o v wr=>∃ (k:Nat) (X:Bs),k<=s.size/\v=.int .i64 (k:Nat)/\o=.string ⟨X.toArray⟩/\Below w.heap.size w wr/\X.length<=3*k /\
  X++egL (decide (k=0)) (s.data.toList.drop k)=esL s.data.toList) (fun _ v _=>s.size - (intOf v).toNat)
 case atStart=>exact ⟨0,[],by omega,rfl,rfl,Br _,by simp,rfl⟩
 case round =>
  obtain ⟨k,X,hk,rfl,rfl,hb,hX,hinv⟩:=hrel
  by_cases aj:k<s.size
  ·have bh:(k:Int)<(s.size:Int):=by omega
   have h8:s[k].toNat<256:=s[k].toNat_lt
   rw [zn3 s k aj] at hinv
   cases eh:zau s[k].toNat with
   | true =>
    rw [zeE _ _ _ eh,<- List.append_assoc] at hinv
    have H:=Hy (An hb hinv)
    have hw:((s[k].toNat:Int)<32)\/((32:Int)<=(s[k].toNat:Int)/\((s[k].toNat:Int)==127)=true):=by
     simp only [zau,Bool.or_eq_true,decide_eq_true_eq] at eh;simp only [beq_iff_eq];omega
    clear eh hb hinv
    obtain ⟨x,hx⟩:=Ex (s[k])
    rw [hx] at H h8 hw
    have gj:((x.toNat:Int)/16)<16:=by omega
    have dG:(0:Int)<=(x.toNat:Int)/16:=by omega
    have xj:((x.toNat:Int)%16)<16:=by omega
    have Io:(0:Int)<=(x.toNat:Int)%16:=by omega
    rcases hw with hw | ⟨hw,bL⟩
    all_goals
     go_wp2
     have hL:X.length<=140737488355328:=by omega
     have EP:¬ (9223372036854775807<X.length+1):=by omega
     have BX:¬ (9223372036854775807<X.length+1+1):=by omega
     have hL3:¬ (9223372036854775807<X.length+1+1+1):=by omega
     have hL4:¬ (9223372036854775807<X.length+2):=by omega
     have hL5:¬ (9223372036854775807<X.length+2+1):=by omega
     have hL6:¬ (9223372036854775807<X.length+3):=by omega
     have we:(x.toNat:Int)/16+1<=16:=by omega
     have hq7:(x.toNat:Int)%16+1<=16:=by omega
     have My:(0:Int)<=(x.toNat:Int)/16+1:=by omega
     have hq9:(0:Int)<=(x.toNat:Int)%16+1:=by omega
     have hq10:(x.toNat:Int)/16<=(x.toNat:Int)/16+1:=by omega
     have hq11:(x.toNat:Int)%16<=(x.toNat:Int)%16+1:=by omega
     have aB:=zwp ⟨x.toNat,h8⟩
     have aL:=zwq ⟨x.toNat,h8⟩
     have cU:=zwr ⟨x.toNat,h8⟩
     have dk:=zws ⟨x.toNat,h8⟩
     simp only [] at aB aL cU dk
     have uw:=zn7 ((x.toNat:Int)/16) dG gj
     have BU:=zn7 ((x.toNat:Int)%16) Io xj
     unfold zfB at uw BU
     go_quiet (fail)
     go_wp2
     refine ⟨⟨k+1,X++[92,hxD (x.toNat/16),hxD (x.toNat%16)],by omega,by go_num,by rw [zwt],zae H.o.1 nq,by simp;omega,H.o.2⟩,by simp [intOf];omega⟩
   | false =>
    have rn:(32:Int)<=(s[k].toNat:Int)/\((s[k].toNat:Int)==127)=false:=by
     simp only [zau,Bool.or_eq_false_iff,decide_eq_false_iff_not] at eh;simp only [beq_eq_false_iff_ne,ne_eq];omega
    have HS:=Hy (znV s[k].toNat)
    have hE:=zn9 s k aj
    have fM:(k:Int)+1<=(s.size:Int):=by omega
    have iC:(k:Int)<=(k:Int)+1:=by omega
    have lh:(0:Int)<=(k:Int)+1:=by omega
    have hL:X.length<=140737488355328:=by omega
    have EP:¬ (9223372036854775807<X.length+1):=by omega
    have BX:¬ (9223372036854775807<X.length+1+1):=by omega
    have hL3:¬ (9223372036854775807<X.length+2):=by omega
    cases cC:mkN (decide (k=0)) (decide (k+1=s.size)) s[k].toNat with
    | true =>
     rw [zeF _ _ _ eh cC,<- List.append_assoc] at hinv
     have H:=Hy (An hb hinv)
     have hw:=zwu k s.size s[k].toNat cC
     clear eh cC hb hinv
     obtain ⟨x,hx⟩:=Ex (s[k])
     rw [hx] at H h8 hw HS rn hE
     obtain ⟨au,ak⟩:=rn
     rcases hw with hw | ⟨hw,sI,f8⟩ | ⟨hw,sI,f8,bL⟩ | ⟨hw,sI,f8,bL⟩
     all_goals
      rw [hw] at HS
      clear hw
      go_wp2_with fail
      refine (HS.o _).mono ?_
      rintro e w2 ⟨rfl,hw⟩
      obtain rfl:=hw.symm
      go_wp2
      refine ⟨⟨k+1,X++[92,x],by omega,by go_num,by rw [zn8],H.o.1,by simp;omega,H.o.2⟩,by simp [intOf];omega⟩
    | false =>
     rw [zeG _ _ _ eh cC,<- List.append_assoc] at hinv
     have H:=Hy (An hb hinv)
     have hw:=zwv k s.size s[k].toNat cC
     clear eh cC hb hinv
     obtain ⟨x,hx⟩:=Ex (s[k])
     rw [hx] at H h8 hw HS rn hE
     obtain ⟨au,ak⟩:=rn
     have rm:spN x.toNat=false/\∃ b0 b1 b2 b3,((k:Int)==0)=b0/\((x.toNat:Int)==32)=b1/\((x.toNat:Int)==35)=b2/\((k:Int)==(s.size:Int) - 1)=b3/\((b0=true/\b1=false/\b2=false)\/(b0=false/\(b1=false\/b3=false))):=by
      rcases hw with ⟨hw,sI,f8,bL,_,_⟩ | ⟨hw,sI,f8,_,_⟩ | ⟨hw,sI,f8,_,h3,rfl⟩
      ·exact ⟨hw,_,_,_,_,rfl,rfl,rfl,rfl,.inl ⟨sI,f8,bL⟩⟩
      ·exact ⟨hw,_,_,_,_,rfl,rfl,rfl,rfl,.inr ⟨sI,.inl f8⟩⟩
      exact ⟨hw,_,_,_,_,rfl,rfl,rfl,rfl,.inr ⟨sI,.inr h3⟩⟩
     obtain ⟨hs,b0,b1,b2,b3,g0,g1,g2,g3,uS⟩:=rm
     rw [hs] at HS
     clear hs hw
     cases b0 <;> cases b1 <;> cases b2 <;> cases b3 <;> simp only [reduceCtorEq,and_false,and_true,false_and,true_and,or_false,or_true,false_or,true_or] at uS
     all_goals
      go_wp2_with fail
      refine (HS.o _).mono ?_
      rintro e w2 ⟨rfl,hw⟩
      obtain rfl:=hw.symm
      go_wp2
      refine ⟨⟨k+1,X++[x],by omega,by go_num,by rw [zgL],H.o.1,by simp;omega,H.o.2⟩,by simp [intOf];omega⟩
  obtain rfl:k=s.size:=by omega
  rw [zn4,List.append_nil] at hinv
  subst hinv
  have H:=Hy hb
  clear hb
  go_wp2
  go_ret
  exact ⟨rfl,H.o⟩
def zb8 (w:World) (v:Value) (r:List Av):Prop :=
 ∃ a c,v=.slice a r.length c/\r.length<=c/\∀ i (h:i<r.length),∃ g o,a=some ⟨g,o,none⟩/\g<w.heap.size/\w.cell? ⟨g,o+i*2,none⟩=some (.string ⟨r[i].1.toArray⟩)/\w.cell? ⟨g,o+i*2+1,none⟩=some (.string ⟨r[i].2.toArray⟩)
def zb9 (w:World) (v:Value) (d:List (List Av)):Prop :=
 ∃ a c,v=.slice a d.length c/\d.length<=c/\∀ i (h:i<d.length),∃ g o u,a=some ⟨g,o,none⟩/\g<w.heap.size/\w.cell? ⟨g,o+i,none⟩=some u/\zb8 w u d[i]
theorem zc1 (h:zb8 w v r) (hb:Below w.heap.size w w'):zb8 w' v r:=by
 obtain ⟨a,c,rfl,bM,h⟩:=h
 refine ⟨a,c,rfl,bM,fun i hi=>?_⟩
 obtain ⟨g,o,rfl,hg,h1,h2⟩:=h i hi
 exact ⟨g,o,rfl,Nat.lt_of_lt_of_le hg hb.size,(hb.cell (p:=⟨g,_,none⟩) hg).trans h1,(hb.cell (p:=⟨g,_,none⟩) hg).trans h2⟩
theorem zoa {d:List (List Av)} (h:zb9 w v d) (hb:Below w.heap.size w w'):zb9 w' v d:=by
 obtain ⟨a,c,rfl,bM,h⟩:=h
 refine ⟨a,c,rfl,bM,fun i hi=>?_⟩
 obtain ⟨g,o,u,rfl,hg,h1,h2⟩:=h i hi
 exact ⟨g,o,u,rfl,Nat.lt_of_lt_of_le hg hb.size,(hb.cell (p:=⟨g,_,none⟩) hg).trans h1,zc1 h2 hb⟩
theorem zwx (h:zb8 w v r) (k:Nat) (hk:k<=r.length):∃ a c,v=.slice a r.length c/\zb8 w (.slice a k c) (r.take k):=by
 obtain ⟨a,c,rfl,bM,h⟩:=h
 have hl:(r.take k).length=k:=by simp;omega
 refine ⟨a,c,rfl,a,c,by rw [hl],by omega,fun i hi=>?_⟩
 obtain ⟨g,o,rfl,hg,h1,h2⟩:=h i Om
 exact ⟨g,o,rfl,hg,by rw [h1,List.getElem_take],by rw [h2,List.getElem_take]⟩
theorem zgM {α:Type} (p:α->Bool) (r:List α) (k:Nat) (h:k<r.length):(r.take (k+1)).any p=((r.take k).any p || p r[k]):=by
 rw [List.take_succ_eq_append_getElem h,List.any_append];simp
theorem zwy (x y:Bs):((⟨x.toArray⟩:ByteArray).toList==(⟨y.toArray⟩:ByteArray).toList)=(x==y):=by rw [ByteArray.toList_eq,ByteArray.toList_eq]
theorem zwz (T V:Bs) (s:ByteArray) (b:Nat) (w:World) (hs:w.cell? ⟨b,0,none⟩=some (.string s)) (eJ:b<w.heap.size) :
  Calls prog 225 #[.agg #[.string ⟨T.toArray⟩,.string ⟨V.toArray⟩],.pointer (some ⟨b,0,none⟩)] w (zbE (za T==za s.data.toList) w):=by
 go_enter func225,ntmps225
 go_wp2
 obtain ⟨W,hW⟩:=Ex (w.alloc (.cells #[.string ⟨T.toArray⟩,.string ⟨V.toArray⟩] 144))
 have aE:=Nb hW
 have cF:W.cell? ⟨w.heap.size,0,none⟩=some (.string ⟨T.toArray⟩):=by rw [<- hW,World.cell?_alloc_mark w _ _ (0,0)];rfl
 have eX:W.cell? ⟨b,0,none⟩=some (.string s):=(aE.cell (p:=⟨b,0,none⟩) eJ).trans hs
 have hz:w.heap.size<W.heap.size:=by rw [<- hW];simp
 have cL:b<W.heap.size:=by omega
 rw [hW]
 clear hW
 go_region_held3 (fun w'=>w'.cell? ⟨w.heap.size,0,none⟩=some (.string ⟨T.toArray⟩)/\w'.cell? ⟨b,0,none⟩=some (.string s)) (first | exact ⟨hd0,ef⟩ | exact ⟨cF,eX⟩ | go_keep)
  (first | (go_at_call 72;refine (zco _ _).mono ?_;rintro en w3 ⟨rfl,aK⟩;have ax:Below W.heap.size W w3:=(by first | exact ax.trans (aK.mono ax.size) | exact (Br W).drew.trans aK);have hd0:=(ax.cell (p:=⟨w.heap.size,0,none⟩) hz).trans cF;have ef:=(ax.cell (p:=⟨b,0,none⟩) cL).trans eX))
 go_wp2
 go_ret
 exact ⟨rfl,aE.trans (ax.mono aE.size)⟩
theorem zwA (v:Value) (r:List Av) (s:ByteArray) (b:Nat) (w:World) (h:zb8 w v r) (hs:w.cell? ⟨b,0,none⟩=some (.string s)) (eJ:b<w.heap.size) (hr:r.length<=9223372036854775807) :
  Calls prog 238 #[v,.func (.func 225) #[] #[.pointer (some ⟨b,0,none⟩)]] w
   (fun e w'=>(∃ n:Int,e=.returned (.int .i64 n)/\decide (n ≥ 0)=r.any fun q=>za q.1==za s.data.toList)/\Below w.heap.size w w'):=by
 obtain ⟨a,c,rfl,bM,h⟩:=h
 go_enter func238,ntmps238
 go_wp2
 go_loopw [8] (fun v wr=>∃ k:Nat,k<=r.length/\v=.int .i64 (k:Nat)/\Below w.heap.size w wr/\(r.take k).any (fun q=>za q.1==za s.data.toList)=false) (fun v _=>r.length - (intOf v).toNat)
 case atStart=>exact ⟨0,by omega,rfl,Br _,rfl⟩
 case round =>
  obtain ⟨k,hk,rfl,hb,cj⟩:=hrel
  by_cases aj:k<r.length
  ·obtain ⟨g,o,rfl,hg,h1,h2⟩:=h k aj
   have bh:(k:Int)<(r.length:Int):=by omega
   have c1:=(hb.cell (p:=⟨g,_,none⟩) hg).trans h1
   have c2:=(hb.cell (p:=⟨g,_,none⟩) hg).trans h2
   have HC:=Hy (zwz r[k].1 r[k].2 s b wr ((hb.cell (p:=⟨b,0,none⟩) eJ).trans hs) (Nat.lt_of_lt_of_le eJ hb.size))
   have bn:=zgM (fun q:Av=>za q.1==za s.data.toList) r k aj
   rw [cj,Bool.false_or] at bn
   obtain ⟨T,hT⟩:=Ex (r[k].1)
   obtain ⟨V,hV⟩:=Ex (r[k].2)
   rw [hT] at c1 HC bn
   rw [hV] at c2 HC
   obtain ⟨q,hq⟩:=Ex (za T==za s.data.toList)
   rw [hq] at HC bn
   have H:=Hy (An hb bn)
   clear cj hb bn
   cases q
   ·go_wp2_with fail
    refine HC.o.mono ?_
    rintro e w2 ⟨rfl,ak⟩
    go_wp2
    refine ⟨⟨k+1,by omega,by go_num,H.o.1.trans (ak.mono H.o.1.size),H.o.2⟩,by simp [intOf];omega⟩
   go_wp2_with fail
   refine HC.o.mono ?_
   rintro e w2 ⟨rfl,ak⟩
   go_wp2
   go_ret
   refine ⟨⟨k,rfl,?_⟩,H.o.1.trans (ak.mono H.o.1.size)⟩
   have h9:=H.o.2
   have lk:(r.any fun q=>za q.1==za s.data.toList)=true:=by
    rw [List.any_eq_true] at h9 ⊢
    obtain ⟨x,hx,hp⟩:=h9
    exact ⟨x,List.mem_of_mem_take hx,hp⟩
   rw [lk];simp
  obtain rfl:k=r.length:=by omega
  rw [List.take_length] at cj
  have H:=Hy (An hb cj)
  clear hb cj
  go_wp2
  go_ret
  exact ⟨⟨-1,rfl,by rw [H.o.2];rfl⟩,H.o.1⟩
theorem zwB (v:Value) (r:List Av) (s:ByteArray) (w:World) (h:zb8 w v r) (hr:r.length<=9223372036854775807) :
  Calls prog 197 #[v,.string s] w (zbE (r.any fun q=>za q.1==za s.data.toList) w):=by
 obtain ⟨W,hW⟩:=Ex (w.alloc (.cells #[.string s] 9))
 have aE:=Nb hW
 have cF:W.cell? ⟨w.heap.size,0,none⟩=some (.string s):=by rw [<- hW,World.cell?_alloc_mark w _ _ (0,0)];rfl
 have hz:w.heap.size<W.heap.size:=by rw [<- hW];simp
 have HC:=Hy (zwA v r s w.heap.size W (zc1 h aE) cF hz hr)
 have H:=Hy aE
 obtain ⟨a,c,rfl,_,_⟩:=h
 clear aE cF hz
 go_enter func197,ntmps197
 go_wp2_with fail
 go_in
 go_wp2_with fail
 refine HC.o.mono ?_
 rintro e w2 ⟨⟨n,rfl,hn⟩,ak⟩
 have HN:=Hy hn
 clear hn
 go_wp2
 go_ret
 refine ⟨?_,H.o.trans (ak.mono H.o.size)⟩
 rw [<- HN.o]
 rfl
end Go.Proofs.YtijglbolppkefaaGreatDoor
