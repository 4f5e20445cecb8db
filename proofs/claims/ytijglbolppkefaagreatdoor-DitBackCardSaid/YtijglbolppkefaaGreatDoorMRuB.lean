/- The document's Int and Less, for. -/
import Derived.Test.YtijglbolppkefaaGreatDoorFoldAE
import Derived.Test.YtijglbolppkefaaGreatDoorDqE
import Derived.BigQuiet
import Derived.Test.YtijglbolppkefaaGreatDoorDqI
import Derived.Test.YtijglbolppkefaaGreatDoorMLayw
import Derived.Sort.LotA
set_option linter.unusedVariables false
set_option linter.unusedSimpArgs false
set_option maxHeartbeats 25600000
set_option maxRecDepth 100000
namespace Go.Proofs.YtijglbolppkefaaGreatDoor
open Go.Proofs.Tryz
open Go Go.RowKit Go.Proofs.BerK Go.Proofs.MemK Go.Proofs.UtfK
variable {a l s : Bs} {b : Bool} {w w' : World} {m n r : Int} {p : Bs × Bool} {L : List (Bs)} {e : TypeId} {v : Value}
theorem zpG {p:Prop} (h:p:=by
 rcases rk with ⟨hm1,BL⟩ | ⟨Cg,Na⟩
 ·have hm:=zpQ z hm1
  rw [if_pos BL,hz] at hm
  have jf:(z.extract 1 z.size).size=z.size - 1:=by rw [<- zl (z.extract 1 z.size),Lib.extract_to_end,List.length_drop,zl]
  have H:=Hy (An hm jf)
  have w1:(1:Int)<(z.size:Int):=by omega
  have w4:((z[0].toNat:Int)==48)=true:=by rw [BL];rfl
  obtain ⟨c,hc⟩:=Ex (z[0].toNat)
  rw [hc] at lk w4
  clear hm jf BL hz
  go_wp2
  refine ⟨⟨_,rfl,by rw [H.o.2];omega,by rw [H.o.2];omega,H.o.1.symm⟩,?_⟩
  show (z.extract 1 z.size).size<z.size
  rw [H.o.2];omega
 obtain ⟨w1,f8⟩:∃ P:Prop,((¬ (1:Int)<(z.size:Int))\/((1:Int)<(z.size:Int)/\((z[0].toNat:Int)==48)=false))=P:=⟨_,rfl⟩
 have hw:w1:=by
  rw [<- f8]
  rcases Na with h | ⟨h,h2⟩
  ·exact .inl Om
  exact .inr ⟨by omega,by rw [beq_eq_false_iff_ne];intro e;apply h2;apply UInt8.toNat_inj.1;show _=48;omega⟩
 rw [<- f8] at hw
 clear f8 Na hz w1
 rw [<- Cg] at HK
 clear Cg
 obtain ⟨c,hc⟩:=Ex (z[0].toNat)
 rw [hc] at lk hw
 by_cases he:z.data.toList=[48]
 ·have w5:(z.toList==[48])=true:=by rw [ByteArray.toList_eq,he];rfl
  have H:=Hy (show zaN L=(z.data.toList,true) by rw [he];exact HK.o.1 he)
  clear he HK
  rcases hw with w1 | ⟨w1,w4⟩
  all_goals
   go_wp2
   go_ret2
   exact zhx H.o
 have w5:(z.toList==[48])=false:=by rw [ByteArray.toList_eq,beq_eq_false_iff_ne];exact he
 have w6:¬ (9223372036854775807<z.size):=by omega
 have w7:¬ (9223372036854775807<1+z.size):=by omega
 have H:=Hy (HK.o.2 he)
 clear he HK
 rcases hw with w1 | ⟨w1,w4⟩
 all_goals
  go_wp2
  go_ret2
  refine zhx ?_
  rw [H.o]
  simp):p:=h
theorem zhw {p:Prop} (h:p:=by
 go_enter func153,ntmps153
 go_wp2
 go_ret2
 exact zhx H.o):p:=h
theorem zpH {p:Prop} (h:p:=by
 by_cases uM:z.size=1
 ·exact .inr ⟨(zzT z uM).symm.trans hz,.inl Om⟩
 have hm:=zpQ z Om
 by_cases vf:z[0]=48
 ·exact .inl ⟨by omega,vf⟩
 rw [if_neg vf] at hm
 exact .inr ⟨hm.symm.trans hz,.inr ⟨by omega,vf⟩⟩):p:=h
theorem zpI {p:Prop} (h:p:=by
 go_enter func135,ntmps135
 go_wp2_with fail
 refine (HB.o _).mono ?_
 rintro e w2 ⟨rfl,ak⟩
 have B2:=Hy ak
 clear ak
 go_wp2
 go_ret2
 exact zcd HR.o B2.o):p:=h
theorem zpJ {p:Prop} (h:p:=by
 rw [hc] at h9 jk
 have z:(c:Int)<48\/(¬ (c:Int)<48/\(57:Int)<(c:Int)):=by omega
 clear af mU jk HB HI
 rcases z with z1 | ⟨z1,z2⟩
 all_goals
  go_wp2
  go_ret2
  exact zhx H.o):p:=h
theorem zpK {p:Prop} (h:p:=by
 rw [hc] at h9 mU
 have z1:¬ (c:Int)<48:=by omega
 have z2:¬ (57:Int)<(c:Int):=by omega
 clear af eD mU
 go_wp2
 exact ⟨⟨k+1,by omega,by go_num,H.o⟩,by simp [intOf];omega⟩):p:=h
theorem zpL {p:Prop} (h:p:=by
 go_enter func135,ntmps135
 go_wp2
 go_ret2
 exact zcd (a:=[]) HR.o (Br _)):p:=h
theorem zpM {p:Prop} (h:p:=by
 rintro e w2 ⟨rfl,ak⟩
 have B2:=Hy ak
 clear ak
 go_wp2
 go_ret2
 exact zcd gG.o B2.o):p:=h
theorem zpN {p:Prop} (h:p:=by
 rw [beq_eq_false_iff_ne];intro hh;apply h0;apply UInt8.toNat_inj.1;show _=32;omega):p:=h
def zpO (l:Bs) (w:World) (en:Ending) (w':World):Prop:=en=.returned (.tuple #[.string ⟨(zaN l).1.toArray⟩,.bool (zaN l).2])/\w'=w
theorem zhx {x:ByteArray} (h:zaN l=(x.data.toList,b)):zpO l w (.returned (.tuple #[.string x,.bool b])) w:=by
 refine ⟨?_,rfl⟩
 rw [h,zbD]
theorem zzS (l:Bs) (h:okD (zal l)=true):(za9 (zal l)=[48]->zaN l=([48],true))/\(za9 (zal l)≠[48]->zaN l=((if za7 l=true then [45] else [])++za9 (zal l),true)):=by
 constructor
 ·intro hz
  rw [zaN,zfx,if_neg (by simp [h]),if_pos hz]
 intro hz
 rw [zaN,zfx,if_neg (by simp [h]),if_neg hz]
 by_cases hm:l.head? = some 45 <;> simp [za7,hm]
theorem zpP (x:ByteArray) (h1:1<=x.size) (h2:x.size<=32) (h:x.data.toList.all zar=true):okD x.data.toList=true:=by
 have hl:=zl x
 simp only [okD,h,Bool.and_true,Bool.and_eq_true,decide_eq_true_eq];omega
theorem zka (x:ByteArray) (h:x.size<1\/32<x.size):okD x.data.toList=false:=by
 have hl:=zl x
 simp only [okD,Bool.and_eq_false_iff,decide_eq_false_iff_not];omega
theorem zzT (x:ByteArray) (h:x.size=1):za9 x.data.toList=x.data.toList:=by
 have hl:=zl x
 match hx:x.data.toList with
 | []=>rfl
 | [c]=>rfl
 | c :: d :: r=>rw [hx] at hl;simp at hl;omega
theorem zpQ (x:ByteArray) (h:1<x.size):za9 x.data.toList=if x[0]=48 then za9 (x.extract 1 x.size).data.toList else x.data.toList:=by
 have hl:=zl x
 have hc:=zcX x Om
 obtain ⟨r,hr⟩:=Ex ((x.extract 1 x.size).data.toList)
 rw [hr] at hc ⊢
 rw [hc]
 match r,hc with
 | [],hc=>rw [hc] at hl;simp at hl;omega
 | d :: r,hc=>rw [za9]
theorem zzU (s:ByteArray) (hs:s.size<=140737488355328) (w:World):Calls prog 153 #[.string s] w (zpO s.data.toList w):=by
 have hl:=zl s
 by_cases h0:s.size=0
 ·have hn:s.data.toList=[]:=List.eq_nil_of_length_eq_zero (by rw [zl];exact h0)
  have dS:=zcF s h0
  have H:=Hy (show zaN s.data.toList=((⟨#[]⟩:ByteArray).data.toList,false) by rw [hn];rfl)
  have q:(s.size:Int)<1:=by omega
  clear hl hn h0
  exact zhw
 have dS:=zbW s Om
 have h8:=s[0].toNat_lt
 have uF:1<=s.size:=by omega
 have pY:(1:Int)<=(s.size:Int):=by omega
 have wZ:(0:Int)<(s.size:Int):=by omega
 have hh:=zgC s Om
 obtain ⟨L,hL⟩:=Ex s.data.toList
 have HB:=Hy (znA L)
 have HI:=Hy (zzS L)
 rw [hL] at hh ⊢
 by_cases xw:s[0]=45
 ·have ht:((s[0].toNat:Int)==45)=true:=by rw [xw];rfl
  have hm:za7 L=true:=by simp [za7,hh,xw]
  have hd:zal L=(s.extract 1 s.size).data.toList:=by rw [znx _ hm,Lib.extract_to_end,hL]
  rw [hd,hm] at HI
  rw [hd] at HB
  obtain ⟨x,hx⟩:=Ex (s.extract 1 s.size)
  have lV:x.size<=s.size:=by
   rw [<- hx,<- zl,Lib.extract_to_end,List.length_drop];omega
  rw [hx] at HI HB
  obtain ⟨c0,cF⟩:=Ex (s[0].toNat)
  rw [cF] at h8 ht
  clear hl h0 hh hL xw hm hd
  by_cases vh:x.size<1
  ·have q1:(x.size:Int)<1:=by omega
   have H:=Hy (HB.o (zka x (.inl vh)))
   clear HB HI
   exact zhw
  have d7:1<=x.size:=by omega
  by_cases aW:32<x.size
  ·have q1:¬ (x.size:Int)<1:=by omega
   have q2:(32:Int)<(x.size:Int):=by omega
   have H:=Hy (HB.o (zka x (.inr aW)))
   clear HB HI
   exact zhw
  have q1:¬ (x.size:Int)<1:=by omega
  have q2:¬ (32:Int)<(x.size:Int):=by omega
  go_enter func153,ntmps153
  go_wp2
  go_loop [5] (fun v=>∃ k:Nat,k<=x.size/\v=.int .i64 (k:Nat)/\(x.data.toList.take k).all zar=true) (fun v=>x.size - (intOf v).toNat)
  case atStart=>exact ⟨0,by omega,rfl,by simp⟩
  case round =>
   obtain ⟨k,hk,rfl,af⟩:=hrel
   by_cases aj:k<x.size
   ·have bh:(k:Int)<(x.size:Int):=by omega
    have h9:x[k].toNat<256:=x[k].toNat_lt
    by_cases mU:zar x[k]=true
    ·have eD:(x.data.toList.take (k+1)).all zar=true:=by
      rw [zdb x k aj,List.all_append,af];simp [mU]
     have H:=Hy eD
     unfold zar at mU
     simp only [Bool.and_eq_true,decide_eq_true_eq] at mU
     obtain ⟨c,hc⟩:=Ex (x[k].toNat)
     exact zpK
    have jk:zar x[k]=false:=by simpa using mU
    have H:=Hy (HB.o (zi5 x k aj jk))
    unfold zar at jk
    simp only [Bool.and_eq_false_iff,decide_eq_false_iff_not] at jk
    obtain ⟨c,hc⟩:=Ex (x[k].toNat)
    exact zpJ
   obtain rfl:k=x.size:=by omega
   rw [List.take_of_length_le (by rw [zl];exact Nat.le_refl _)] at af
   have HK:=Hy (HI.o (zpP x d7 Om af))
   clear af HB HI
   go_wp2
   go_loop [0] (fun v=>∃ z:ByteArray,v=.string z/\1<=z.size/\z.size<=32/\za9 z.data.toList=za9 x.data.toList) (fun v=>zds v)
   case atStart=>exact ⟨x,rfl,d7,by omega,rfl⟩
   case round =>
    obtain ⟨z,rfl,bi,ce,hz⟩:=hrel
    have lk:=z[0].toNat_lt
    have w2:(1:Int)<=(z.size:Int):=by omega
    have w3:(0:Int)<(z.size:Int):=by omega
    have rk:(1<z.size/\z[0]=48)\/(z.data.toList=za9 x.data.toList/\(¬ 1<z.size\/(1<z.size/\z[0]≠48))):=by
     exact zpH
    exact zpG
 have ht:((s[0].toNat:Int)==45)=false:=by
  rw [beq_eq_false_iff_ne];intro e;apply xw;apply UInt8.toNat_inj.1;show _=45;omega
 have hm:za7 L=false:=by simp [za7,hh,xw]
 have hd:zal L=s.data.toList:=by rw [zny _ hm,hL]
 rw [hd,hm] at HI
 rw [hd] at HB
 obtain ⟨c0,cF⟩:=Ex (s[0].toNat)
 rw [cF] at h8 ht
 clear hl h0 hh hL xw hm hd
 have d7:=uF
 by_cases aW:32<s.size
 ·have q1:¬ (s.size:Int)<1:=by omega
  have q2:(32:Int)<(s.size:Int):=by omega
  have H:=Hy (HB.o (zka s (.inr aW)))
  clear HB HI
  exact zhw
 have q1:¬ (s.size:Int)<1:=by omega
 have q2:¬ (32:Int)<(s.size:Int):=by omega
 go_enter func153,ntmps153
 go_wp2
 go_loop [5] (fun v=>∃ k:Nat,k<=s.size/\v=.int .i64 (k:Nat)/\(s.data.toList.take k).all zar=true) (fun v=>s.size - (intOf v).toNat)
 case atStart=>exact ⟨0,by omega,rfl,by simp⟩
 case round =>
  obtain ⟨k,hk,rfl,af⟩:=hrel
  by_cases aj:k<s.size
  ·have bh:(k:Int)<(s.size:Int):=by omega
   have h9:s[k].toNat<256:=s[k].toNat_lt
   by_cases mU:zar s[k]=true
   ·have eD:(s.data.toList.take (k+1)).all zar=true:=by
     rw [zdb s k aj,List.all_append,af];simp [mU]
    have H:=Hy eD
    unfold zar at mU
    simp only [Bool.and_eq_true,decide_eq_true_eq] at mU
    obtain ⟨c,hc⟩:=Ex (s[k].toNat)
    exact zpK
   have jk:zar s[k]=false:=by simpa using mU
   have H:=Hy (HB.o (zi5 s k aj jk))
   unfold zar at jk
   simp only [Bool.and_eq_false_iff,decide_eq_false_iff_not] at jk
   obtain ⟨c,hc⟩:=Ex (s[k].toNat)
   exact zpJ
  obtain rfl:k=s.size:=by omega
  rw [List.take_of_length_le (by rw [zl];exact Nat.le_refl _)] at af
  have HK:=Hy (HI.o (zpP s d7 Om af))
  clear af HB HI
  go_wp2
  go_loop [0] (fun v=>∃ z:ByteArray,v=.string z/\1<=z.size/\z.size<=32/\za9 z.data.toList=za9 s.data.toList) (fun v=>zds v)
  case atStart=>exact ⟨s,rfl,d7,by omega,rfl⟩
  case round =>
   obtain ⟨z,rfl,bi,ce,hz⟩:=hrel
   have lk:=z[0].toNat_lt
   have w2:(1:Int)<=(z.size:Int):=by omega
   have w3:(0:Int)<(z.size:Int):=by omega
   have rk:(1<z.size/\z[0]=48)\/(z.data.toList=za9 s.data.toList/\(¬ 1<z.size\/(1<z.size/\z[0]≠48))):=by
    exact zpH
   exact zpG
def ruN (r:Int) (s:Bs):Bs × Bool :=
 if 4096<s.length then ([],false) else
 if r=1 then (zah s,!(zah s).isEmpty) else
 if r=2 then (blL s,!(blL s).isEmpty) else
 if r=3 then zaN s else
 if r=4 then (s,true) else
 if r=5 then ((noD s).1,decide ((noD s).2=0)) else ([],false)
theorem zpR (h:4096<s.length):ruN r s=([],false):=by unfold ruN;rw [if_pos h]
theorem zpS (h:¬ 4096<s.length):ruN 1 s=(zah s,!(zah s).isEmpty):=by unfold ruN;rw [if_neg h,if_pos rfl]
theorem zpT (h:¬ 4096<s.length):ruN 2 s=(blL s,!(blL s).isEmpty):=by unfold ruN;rw [if_neg h,if_neg De,if_pos rfl]
theorem zpU (h:¬ 4096<s.length):ruN 3 s=zaN s:=by unfold ruN;rw [if_neg h,if_neg De,if_neg De,if_pos rfl]
theorem zpV (h:¬ 4096<s.length):ruN 4 s=(s,true):=by unfold ruN;rw [if_neg h,if_neg De,if_neg De,if_neg De,if_pos rfl]
theorem zpW (h:¬ 4096<s.length):ruN 5 s=((noD s).1,decide ((noD s).2=0)):=by unfold ruN;rw [if_neg h,if_neg De,if_neg De,if_neg De,if_neg De,if_pos rfl]
theorem zpX (h1:r≠1) (h2:r≠2) (h3:r≠3) (h4:r≠4) (h5:r≠5):ruN r s=([],false):=by
 unfold ruN
 by_cases h:4096<s.length
 ·rw [if_pos h]
 rw [if_neg h,if_neg h1,if_neg h2,if_neg h3,if_neg h4,if_neg h5]
def zkb (p:Bs × Bool) (w:World) (en:Ending) (w':World):Prop:=en=.returned (.tuple #[.string ⟨p.1.toArray⟩,.bool p.2])/\Below w.heap.size w w'
theorem zcd (h:p=(a,b)) (hb:Below w.heap.size w w'):zkb p w (.returned (.tuple #[.string ⟨a.toArray⟩,.bool b])) w':=by subst h;exact ⟨rfl,hb⟩
theorem zhy (h:l≠[]):l.isEmpty=false:=by cases l <;> simp_all
theorem zzV (r:Int) (s:Bs):(ruN r s).1.length<=4096:=by
 unfold ruN
 split
 ·simp
 rename_i h
 split
 ·have:=zxI s;simp;omega
 split
 ·have:=zjM s;simp;omega
 split
 ·unfold zaN
  split
  ·simp
  split
  ·simp
  rename_i h1 h2
  have aS:zgU s=true:=by simpa using h1
  unfold zgU at aS
  simp only [Bool.and_eq_true,decide_eq_true_eq] at aS
  have:=(zxK (zal s) aS.1.1 aS.1.2 aS.2).1
  simp only [List.length_append]
  split <;> simp <;> omega
 split
 ·simp;omega
 split
 ·simp only [noD]
  split
  ·simp
  unfold puD
  split
  ·simp
  split
  ·simp
  simp;omega
 simp
theorem zkc (r:Int) (s:Bs) (w:World) (he:zD w):Calls prog 135 #[.int .i64 r,.string ⟨s.toArray⟩] w (zkb (ruN r s) w):=by
 by_cases hl:4096<s.length
 ·have HR:=Hy (zpR (r:=r) hl)
  have q:(4096:Int)<(s.length:Int):=by omega
  clear hl he
  exact zpL
 have q:¬ (4096:Int)<(s.length:Int):=by omega
 by_cases h1:r=1
 ·subst h1
  have HR:=Hy (zpS hl)
  have HL:=Hy (fun w=>zco ⟨s.toArray⟩ w)
  change Hd (∀ w,Calls prog _ _ w (zG (za s) w)) at HL
  have HB:=Hy (fun w=>zi3 ⟨(za s).toArray⟩ w (by show (za s).length+1<=_;rw [zdC];omega))
  change Hd (∀ w,Calls prog _ _ w (zG (blL (za s)) w)) at HB
  rw [zxM] at HB
  obtain ⟨F,hF⟩:=Ex (zah s)
  obtain ⟨G,hG⟩:=Ex (za s)
  rw [hF] at HB HR
  rw [hG] at HL HB
  clear hl he hF hG
  by_cases h0:F=[]
  ·subst h0
   go_enter func135,ntmps135
   go_wp2_with fail
   refine (HL.o _).mono ?_
   rintro e w1 ⟨rfl,au⟩
   have B1:=Hy au
   clear au
   go_wp2_with fail
   refine (HB.o _).mono ?_
   rintro e w2 ⟨rfl,ak⟩
   have B2:=Hy (B1.o.trans (ak.mono B1.o.size))
   clear ak
   go_wp2
   go_ret2
   exact zcd HR.o B2.o
  have q0:=zhy h0
  have gG:=Hy (show ruN 1 s=(F,true) by rw [HR.o,q0];rfl)
  clear h0 HR
  go_enter func135,ntmps135
  go_wp2_with fail
  refine (HL.o _).mono ?_
  rintro e w1 ⟨rfl,au⟩
  have B1:=Hy au
  clear au
  go_wp2_with fail
  refine (HB.o _).mono ?_
  rintro e w2 ⟨rfl,ak⟩
  have B2:=Hy (B1.o.trans (ak.mono B1.o.size))
  clear ak
  go_wp2
  go_ret2
  exact zcd gG.o B2.o
 by_cases h2:r=2
 ·subst h2
  have HR:=Hy (zpT hl)
  have HB:=Hy (fun w=>zi3 ⟨s.toArray⟩ w (by show s.length+1<=_;omega))
  change Hd (∀ w,Calls prog _ _ w (zG (blL s) w)) at HB
  obtain ⟨F,hF⟩:=Ex (blL s)
  rw [hF] at HB HR
  clear hl he hF h1
  by_cases h0:F=[]
  ·subst h0
   exact zpI
  have q0:=zhy h0
  have gG:=Hy (show ruN 2 s=(F,true) by rw [HR.o,q0];rfl)
  clear h0 HR
  go_enter func135,ntmps135
  go_wp2_with fail
  refine (HB.o _).mono ?_
  exact zpM
 by_cases h3:r=3
 ·subst h3
  have HR:=Hy (zpU hl)
  have HB:=Hy (fun w=>zvW ⟨s.toArray⟩ w)
  change Hd (∀ w,Calls prog _ _ w (zgF s w)) at HB
  clear hl he h1 h2
  exact zpI
 by_cases h4:r=4
 ·subst h4
  have HR:=Hy (zpV hl)
  clear hl he h1 h2 h3
  go_enter func135,ntmps135
  go_wp2
  go_ret2
  exact zcd HR.o (Br _)
 by_cases h5:r=5
 ·subst h5
  have HR:=Hy (zpW hl)
  have HB:=Hy (zqm ⟨s.toArray⟩ w he)
  change Hd (Calls prog _ _ w (zdo (noD s) w)) at HB
  obtain ⟨P,hP⟩:=Ex (noD s)
  rw [hP] at HB HR
  obtain ⟨X,n⟩:=P
  clear hl he h1 h2 h3 h4 hP
  by_cases hn:n=0
  ·subst hn
   go_enter func135,ntmps135
   go_wp2_with fail
   refine HB.o.mono ?_
   rintro e w2 ⟨rfl,ak⟩
   have B2:=Hy ak
   clear ak
   go_wp2
   go_ret2
   exact zcd HR.o B2.o
  have q0:((n:Int)==0)=false:=by rw [beq_eq_false_iff_ne];omega
  have gG:=Hy (show ruN 5 s=(X,false) by rw [HR.o];simp [hn])
  clear hn HR
  go_enter func135,ntmps135
  go_wp2_with fail
  refine HB.o.mono ?_
  exact zpM
 have HR:=Hy (zpX (s:=s) h1 h2 h3 h4 h5)
 have g1:(r==1)=false:=by simpa using h1
 have g2:(r==2)=false:=by simpa using h2
 have g3:(r==3)=false:=by simpa using h3
 have g4:(r==4)=false:=by simpa using h4
 have g5:(r==5)=false:=by simpa using h5
 clear hl he h1 h2 h3 h4 h5
 exact zpL
def zfR (n:Int) (w:World) (en:Ending) (w':World):Prop:=en=.returned (.int .i64 n)/\Below w.heap.size w w'
theorem zhz (h:n=m) (hb:Below w.heap.size w w'):zfR n w (.returned (.int .i64 m)) w':=by subst h;exact ⟨rfl,hb⟩
theorem zpY (h:n=m):zcE n w (.returned (.int .i64 m)) w:=by subst h;exact ⟨rfl,rfl⟩
theorem zzW (b:Bool) (w:World):Calls prog 172 #[.bool b] w (zcE (tv b) w):=by
 cases b
 all_goals
  go_enter func172,ntmps172
  go_wp2
  go_ret
  exact zpY (by rfl)
def zhA (p q:Bs × Bool) (w:World) (en:Ending) (w':World):Prop:=en=.returned (.tuple #[.string ⟨p.1.toArray⟩,.string ⟨q.1.toArray⟩,.bool (p.2 && q.2)])/\Below w.heap.size w w'
theorem zzX {q:Bs × Bool} {b:Bs} {c:Bool} (h1:p.1=a) (h2:q.1=b) (h3:(p.2 && q.2)=c) (hb:Below w.heap.size w w'):zhA p q w (.returned (.tuple #[.string ⟨a.toArray⟩,.string ⟨b.toArray⟩,.bool c])) w':=by subst h1 h2 h3;exact ⟨rfl,hb⟩
theorem zzY (r:Int) (a b:Bs) (w:World) (he:zD w):Calls prog 171 #[.int .i64 r,.string ⟨a.toArray⟩,.string ⟨b.toArray⟩] w (zhA (ruN r a) (ruN r b) w):=by
 have H1:=Hy (zkc r a w he)
 have H2:=Hy (fun w' (hb:Below w.heap.size w w')=>zkc r b w' (zax he hb))
 obtain ⟨p,hp⟩:=Ex (ruN r a)
 obtain ⟨q,hq⟩:=Ex (ruN r b)
 rw [hp] at H1 ⊢
 rw [hq] at H2 ⊢
 obtain ⟨x,b1⟩:=p
 obtain ⟨y,b2⟩:=q
 clear hp hq he
 cases b1
 all_goals
  go_enter func171,ntmps171
  go_wp2_with fail
  refine H1.o.mono ?_
  rintro e w1 ⟨rfl,au⟩
  have B1:=Hy au
  clear au
  go_wp2_with fail
  refine (H2.o _ B1.o).mono ?_
  rintro e w2 ⟨rfl,ak⟩
  have B2:=Hy (B1.o.trans (ak.mono B1.o.size))
  clear ak
  go_wp2
  go_ret3
  exact zzX rfl rfl Sm B2.o
theorem zzZ (r:Int) (a b:Bs) (w:World) (he:zD w):Calls prog 146 #[.int .i64 r,.string ⟨a.toArray⟩,.string ⟨b.toArray⟩] w (zfR (eqP (ruN r a) (ruN r b)) w):=by
 have HB:=Hy (zzY r a b w he)
 have HT:=Hy zzW
 obtain ⟨p,hp⟩:=Ex (ruN r a)
 obtain ⟨q,hq⟩:=Ex (ruN r b)
 rw [hp,hq] at HB ⊢
 obtain ⟨x,b1⟩:=p
 obtain ⟨y,b2⟩:=q
 clear hp hq he
 cases eO:(b1 && b2)
 ·have HR:=Hy (show eqP (x,b1) (y,b2)=2 by unfold eqP;rw [if_neg];rintro ⟨h1,h2⟩;simp at h1 h2;subst h1 h2;cases eO)
  have e1:zhA (x,b1) (y,b2) w=fun en w'=>en=.returned (.tuple #[.string ⟨x.toArray⟩,.string ⟨y.toArray⟩,.bool false])/\Below w.heap.size w w':=by unfold zhA;simp only [eO]
  rw [e1] at HB
  clear eO e1
  go_enter func146,ntmps146
  go_wp2_with fail
  refine HB.o.mono ?_
  rintro e w1 ⟨rfl,au⟩
  have B1:=Hy au
  clear au
  go_wp2
  go_ret
  exact zhz HR.o B1.o
 obtain ⟨rfl,rfl⟩:b1=true/\b2=true:=by simpa using eO
 have HR:=Hy (zoJ x y)
 clear eO
 go_enter func146,ntmps146
 go_wp2_with fail
 refine HB.o.mono ?_
 rintro e w1 ⟨rfl,au⟩
 have B1:=Hy au
 clear au
 go_wp2_with fail
 refine (HT.o _ _).mono ?_
 rintro e w2 ⟨rfl,hw⟩
 obtain rfl:=hw.symm
 go_wp2
 go_ret
 exact zhz HR.o B1.o
def sp1 (t:UInt8):Bs->Bs × List (Bs)
 | []=>([],[])
 | c :: r =>
  if c=92 then
   match r with
   | []=>([c],[])
   | d :: r'=>let x:=sp1 t r';(c :: d :: x.1,x.2)
  else let x:=sp1 t r
   if c=t then ([],x.1 :: x.2) else (c :: x.1,x.2)
def spB (t:UInt8) (s:Bs):List (Bs):=(sp1 t s).1 :: (sp1 t s).2
theorem ze2 (t:UInt8) (r:Bs):sp1 t (92 :: r)=((92 :: r).take 2++(sp1 t ((92 :: r).drop 2)).1,(sp1 t ((92 :: r).drop 2)).2):=by
 cases r with
 | nil=>simp [sp1]
 | cons d r'=>rw [sp1];simp
theorem zhB (t:UInt8) (r:Bs) (h:t≠92):sp1 t (t :: r)=([],(sp1 t r).1 :: (sp1 t r).2):=by
 conv=>lhs;unfold sp1
 cases r <;> simp [h]
theorem zfS (t c:UInt8) (r:Bs) (h1:c≠92) (h2:c≠t):sp1 t (c :: r)=(c :: (sp1 t r).1,(sp1 t r).2):=by
 conv=>lhs;unfold sp1
 cases r <;> simp [h1,h2]
theorem zz0 (n:Nat):∀ s:Bs,s.length<=n->zv s=((sp1 43 (sp1 44 s).1).1,(sp1 43 (sp1 44 s).1).2,(sp1 44 s).2.map (spB 43)):=by
 induction n with
 | zero =>
  intro s h
  obtain rfl:s=[]:=List.eq_nil_of_length_eq_zero Om
  rfl
 | succ n ih =>
  intro s h
  cases s with
  | nil=>rfl
  | cons c r =>
   simp only [List.length_cons] at h
   have hr:=ih r Om
   by_cases bE:c=92
   ·subst bE
    cases r with
    | nil=>rw [zeN,ze2];simp [zv,sp1]
    | cons d r' =>
     have iy:=ih r' (by simp at h;omega)
     rw [zeN,ze2]
     simp only [List.take_succ_cons,List.take_zero,List.drop_succ_cons,List.drop_zero]
     rw [iy]
     simp only [List.cons_append,List.nil_append]
     rw [ze2]
     simp
   by_cases ll:c=43
   ·subst ll
    rw [zgX,zfS 44 43 r De De,zhB 43 _ De,hr]
   by_cases fC:c=44
   ·subst fC
    rw [zgY,zhB 44 r De,hr]
    rfl
   rw [zd1 _ _ bE ll fC,zfS 44 _ _ bE fC,zfS 43 _ _ bE ll,hr]
theorem zz1 (s:Bs):zbh s=(spB 44 s).map (spB 43):=by
 unfold zbh zc4
 rw [zz0 s.length s Lr]
 simp [spB]
theorem zz2 (t:UInt8) (n:Nat):∀ s:Bs,s.length<=n->(sp1 t s).1.length<=s.length/\(sp1 t s).2.length<=s.length/\∀ x∈(sp1 t s).2,x.length<=s.length:=by
 induction n with
 | zero =>
  intro s h
  obtain rfl:s=[]:=List.eq_nil_of_length_eq_zero Om
  simp [sp1]
 | succ n ih =>
  intro s h
  cases s with
  | nil=>simp [sp1]
  | cons c r =>
   simp only [List.length_cons] at h
   obtain ⟨a1,a2,a3⟩:=ih r Om
   by_cases bE:c=92
   ·subst bE
    cases r with
    | nil=>rw [ze2];simp [sp1]
    | cons d r' =>
     obtain ⟨b1,b2,b3⟩:=ih r' (by simp at h;omega)
     rw [ze2]
     simp only [List.take_succ_cons,List.take_zero,List.drop_succ_cons,List.drop_zero,List.length_cons,List.cons_append,List.nil_append]
     exact ⟨by omega,by omega,fun x hx=>by have:=b3 x hx;omega⟩
   by_cases ht:c=t
   ·subst ht
    rw [zhB _ _ bE]
    simp only [List.length_cons,List.length_nil]
    refine ⟨by omega,by omega,fun x hx=>?_⟩
    rcases List.mem_cons.1 hx with rfl | hx
    ·omega
    have:=a3 x hx;omega
   rw [zfS _ _ _ bE ht]
   simp only [List.length_cons]
   exact ⟨by omega,by omega,fun x hx=>by have:=a3 x hx;omega⟩
theorem zpZ (t:UInt8) (s:Bs):(spB t s).length<=s.length+1/\∀ x∈spB t s,x.length<=s.length:=by
 obtain ⟨a1,a2,a3⟩:=zz2 t s.length s Lr
 refine ⟨by simp [spB];exact a2,fun x hx=>?_⟩
 rcases List.mem_cons.1 hx with rfl | hx
 ·exact a1
 exact a3 x hx
theorem zz3 (p:UInt8->Bool) (a b:Bs):(a++b).dropWhile p=if a.dropWhile p=[] then b.dropWhile p else a.dropWhile p++b:=by
 induction a with
 | nil=>simp
 | cons c r ih =>
  rw [List.cons_append,List.dropWhile_cons,List.dropWhile_cons]
  cases p c with
  | true=>simpa using ih
  | false=>simp
theorem zp0 (c:UInt8) (r:Bs):trB (c :: r)=if trB r=[] then (if c=32 then [] else [c]) else c :: trB r:=by
 unfold trB
 rw [List.reverse_cons,zz3]
 by_cases h:List.dropWhile (· == 32) r.reverse=[]
 ·rw [if_pos h,if_pos (by rw [h];rfl)]
  by_cases hc:c=32 <;> simp [hc]
 rw [if_neg h,if_neg (by simpa using h)]
 simp
theorem zz4 (s:Bs):trB (tlB s)=tlB (trB s):=by
 induction s with
 | nil=>rfl
 | cons c r ih =>
  by_cases hc:c=32
  ·subst hc
   rw [zcP,if_pos rfl,ih,zp0]
   by_cases h:trB r=[]
   ·rw [if_pos h,if_pos rfl,h]
   rw [if_neg h,zcP,if_pos rfl]
  rw [zcP,if_neg hc,zp0]
  by_cases h:trB r=[]
  ·rw [if_pos h,if_neg hc,zcP,if_neg hc]
  rw [if_neg h,zcP,if_neg hc]
open Go.Sort hiding Below
open Go.Proofs.BerK
theorem zhC (x y:Av):ltOf zbZ x y=decide (x.1<y.1):=by
 unfold ltOf zbZ zhF
 simp only [ByteArray.toList_eq]
 rw [zdX]
 unfold ltB
 by_cases h:x.1<y.1
 ·simp [h]
 simp only [h,decide_false,Bool.false_eq_true,if_false]
 split <;> simp
theorem zz5:SWO (ltOf zbZ) where
 irrefl x:=by rw [zhC];simp [List.lt_irrefl]
 trans x y z h1 h2:=by simp only [zhC,decide_eq_true_eq] at *;exact List.lt_trans h1 h2
 ntrans x y z h1 h2:=by
  simp only [zhC,decide_eq_false_iff_not,List.not_lt] at *
  exact List.le_trans h2 h1
def InO (r:List Av):Prop:=r.Pairwise fun x y=>¬ y.1<x.1
theorem zp1 (r:List Av):(zb0 r).Perm r/\InO (zb0 r):=by
 obtain ⟨hP,hS⟩:=insertionSort_holds zz5 r.toArray 0 r.length (Nat.zero_le _) Sm
 obtain ⟨aW,_,sM⟩:=hP
 have eZ:(insertionSort (ltOf zbZ) r.toArray 0 r.length).size=r.length:=by rw [aW];simp
 have e1:(insertionSort (ltOf zbZ) r.toArray 0 r.length).extract 0 r.length=insertionSort (ltOf zbZ) r.toArray 0 r.length:=by
  conv=>lhs;arg 3;rw [<- eZ]
  exact Array.extract_size
 rw [e1,show r.toArray.extract 0 r.length=r.toArray from Array.extract_size] at sM
 refine ⟨by simpa [zb0] using sM,?_⟩
 unfold InO zb0
 rw [List.pairwise_iff_getElem]
 intro i j hi hj oA
 have cG:i<(insertionSort (ltOf zbZ) r.toArray 0 r.length).size:=by simpa using hi
 have uE:j<(insertionSort (ltOf zbZ) r.toArray 0 r.length).size:=by simpa using hj
 have:=hS i j (Nat.zero_le _) oA Om
 rw [getElem!_pos _ j uE,getElem!_pos _ i cG,zhC] at this
 simpa using this
theorem zp2 (p:Av) (o:List Av):(zcG p o).Perm (p :: o):=by
 induction o with
 | nil=>exact List.Perm.refl _
 | cons q r ih =>
  unfold zcG
  split
  ·exact (ih.cons q).trans (List.Perm.swap p q r)
  exact List.Perm.refl _
theorem zz6 (p:Av) (o:List Av) (h:InO o):InO (zcG p o):=by
 induction o with
 | nil=>exact List.pairwise_singleton _ _
 | cons q r ih =>
  obtain ⟨h1,h2⟩:=List.pairwise_cons.1 h
  unfold zcG
  split
  ·rename_i aj
   refine List.pairwise_cons.2 ⟨fun x hx=>?_,ih h2⟩
   rcases List.mem_cons.1 ((zp2 p r).mem_iff.1 hx) with rfl | hx
   ·exact fun h'=>List.lt_irrefl _ (List.lt_trans aj h')
   exact h1 x hx
  rename_i aj
  refine List.pairwise_cons.2 ⟨fun x hx=>?_,h⟩
  rcases List.mem_cons.1 hx with rfl | hx
  ·exact aj
  have:=h1 x hx
  rw [List.not_lt] at this aj ⊢
  exact List.le_trans aj this
def zcK (o l:List Av):List Av:=l.foldl (fun o p=>zcG p o) o
theorem zkd (l:List Av):∀ o,(zcK o l).Perm (l++o):=by
 induction l with
 | nil=>intro o;exact List.Perm.refl _
 | cons p l ih =>
  intro o
  exact (ih (zcG p o)).trans ((List.Perm.append_left l (zp2 p o)).trans (List.perm_middle))
theorem zz7 (l:List Av):∀ o,InO o->InO (zcK o l):=by
 induction l with
 | nil=>intro o h;exact h
 | cons p l ih=>intro o h;exact ih _ (zz6 p o h)
theorem zz8 (l:List Av) (hd:∀ a∈l,∀ b∈l,a.1=b.1->a=b):zb0 l=zcK [] l:=by
 obtain ⟨p1,p2⟩:=zp1 l
 have q1:=zkd l []
 rw [List.append_nil] at q1
 have p3:List.Pairwise (fun x y:Av=>¬ y.1<x.1) (zb0 l):=p2
 have q3:List.Pairwise (fun x y:Av=>¬ y.1<x.1) (zcK [] l):=zz7 l [] List.Pairwise.nil
 refine List.Perm.eq_of_pairwise ?_ p3 q3 (p1.trans q1.symm)
 intro a b ha hb h1 h2
 rw [List.not_lt] at h1 h2
 exact hd a (p1.mem_iff.1 ha) b (q1.mem_iff.1 hb) (List.le_antisymm h1 h2)
theorem zz9 (r:List Av):∀ seen,pgL seen r=true->(∀ q∈seen,∀ p∈r,za q.1≠za p.1)/\∀ p∈r,∀ q∈r,za p.1=za q.1->p=q:=by
 induction r with
 | nil=>intro seen _;exact ⟨fun _ _ p hp=>by simp at hp,fun p hp=>by simp at hp⟩
 | cons x r ih =>
  intro seen h
  rw [pgL,Bool.and_eq_true,Bool.and_eq_true] at h
  obtain ⟨⟨_,h2⟩,h3⟩:=h
  obtain ⟨i1,i2⟩:=ih _ h3
  have hx:∀ q∈seen,za q.1≠za x.1:=by
   intro q hq e
   simp only [twL,Bool.not_eq_true',List.any_eq_false] at h2
   exact h2 q hq (by simpa using e)
  refine ⟨fun q hq p hp=>?_,fun p hp q hq e=>?_⟩
  ·rcases List.mem_cons.1 hp with rfl | hp
   ·exact hx q hq
   exact i1 q (by simp [hq]) p hp
  rcases List.mem_cons.1 hp with C5 | C5
  ·rcases List.mem_cons.1 hq with oH | oH
   ·rw [C5,oH]
   rw [C5] at e;exact absurd e (i1 x Sm q oH)
  rcases List.mem_cons.1 hq with oH | oH
  ·rw [oH] at e;exact absurd e.symm (i1 x Sm p C5)
  exact i2 p C5 q oH e
theorem zAa {r:List Av} (h:prL r=true):nmR r=zcK [] (r.map nmA):=by
 refine zz8 _ fun a ha b hb e=>?_
 obtain ⟨p,hp,rfl⟩:=List.mem_map.1 ha
 obtain ⟨q,hq,rfl⟩:=List.mem_map.1 hb
 simp only [prL,Bool.and_eq_true] at h
 rw [(zz9 r [] h.2).2 p hp q hq e]
def ptO (r:List Av):Option (List Av):=if r.any (fun p=>(zah p.2).isEmpty)=true then none else some (zcK [] (r.map nmA))
def nmO:List (List Av)->Option (List (List Av))
 | []=>some []
 | r :: D=>match ptO r with | none=>none | some q=>(nmO D).map (q :: ·)
theorem zAb (D:List (List Av)) (h:∀ r∈D,prL r=true):(nmO D=none/\∃ r∈D,prL (nmR r)=false)\/nmO D=some (D.map nmR):=by
 induction D with
 | nil=>exact .inr rfl
 | cons r D ih =>
  have hr:=h r Sm
  rw [nmO]
  cases ho:ptO r with
  | none =>
   refine .inl ⟨rfl,r,by simp,?_⟩
   unfold ptO at ho
   split at ho
   ·rename_i ha
    rw [List.any_eq_true] at ha
    obtain ⟨p,hp,hq⟩:=ha
    cases hc:prL (nmR r) with
    | false=>rfl
    | true =>
     have:=(zcv hc).2.2 (nmA p) ((zp1 _).1.mem_iff.2 (List.mem_map.2 ⟨p,hp,rfl⟩))
     simp only [zbH,nmA,Bool.and_eq_true,decide_eq_true_eq] at this
     exact absurd (List.isEmpty_iff.1 hq) (of_decide_eq_true this.1.2)
   cases ho
  | some q =>
   have hq:q=nmR r:=by
    unfold ptO at ho
    split at ho
    ·cases ho
    injection ho with ho;rw [<- ho,zAa hr]
   subst hq
   rcases ih (fun x hx=>h x (by simp [hx])) with ⟨i1,x,hx,i2⟩ | i
   ·exact .inl ⟨by rw [i1];rfl,x,by simp [hx],i2⟩
   exact .inr (by simp only [i];rfl)
theorem zAc {D:List (List Av)} (h:rdD s=(D,0)):noD s=match nmO D with | none=>([],5) | some E=>puD E:=by
 obtain ⟨q1,q2⟩:=zkl h
 rw [zhG h]
 rcases zAb D q2 with ⟨h1,r,hr,h2⟩ | h1
 ·rw [h1]
  have h6:ckD (D.map nmR)=5:=by
   unfold ckD
   rw [if_neg So,if_neg]
   rw [List.all_eq_true]
   intro hh
   rw [hh (nmR r) (List.mem_map.2 ⟨r,hr,rfl⟩)] at h2
   cases h2
  unfold puD
  rw [h6];rfl
 rw [h1]
theorem zAd (h:n=m):zcE n w (.returned (.int .i64 m)) w:=by subst h;exact ⟨rfl,rfl⟩
theorem zAe (c:Nat) (hc:c<256) (w:World):Calls prog 184 #[.int .u8 (c:Nat)] w (zcE ((hxN c:Nat):Int) w):=by
 go_enter func184,ntmps184
 go_wp2
 all_goals (go_ret;refine zAd ?_;unfold hxN;(repeat' split) <;> omega)
def csp (s:ByteArray) (t:UInt8) (f i:Nat):List (Bs):=(zQ s f i++(sp1 t (s.data.toList.drop i)).1) :: (sp1 t (s.data.toList.drop i)).2
theorem zAf (s:ByteArray) (t:UInt8) (f i:Nat) (hf:f<=i) (h:i<s.size) (hc:s[i]=92):csp s t f i=csp s t f (i+2):=by
 have hl:=zl s
 have hd:=zO s.data.toList i Om
 rw [zay s i h,hc] at hd
 unfold csp
 rw [zf5 s f i 2 hf,hd,ze2,<- hd,List.drop_drop]
 simp
theorem zAg (s:ByteArray) (t:UInt8) (f i:Nat) (h:i<s.size) (hc:s[i]=t) (ht:t≠92):csp s t f i=zQ s f i :: csp s t (i+1) (i+1):=by
 have hl:=zl s
 have hd:=zO s.data.toList i Om
 rw [zay s i h,hc] at hd
 unfold csp
 rw [hd,zhB _ _ ht,zfb]
 simp
theorem zAh (s:ByteArray) (t:UInt8) (f i:Nat) (hf:f<=i) (h:i<s.size) (h1:s[i]≠92) (h2:s[i]≠t):csp s t f i=csp s t f (i+1):=by
 have hl:=zl s
 have hd:=zO s.data.toList i Om
 rw [zay s i h] at hd
 unfold csp
 rw [zf5 s f i 1 hf,hd,zfS _ _ _ h1 h2]
 simp
theorem zAi (s:ByteArray) (t:UInt8) (f i:Nat) (h:s.size<=i):csp s t f i=[zQ s f s.size]:=by
 have hl:=zl s
 unfold csp
 rw [zlp s f i h,List.drop_of_length_le Om]
 simp [sp1]
theorem zAj (s:ByteArray) (t:UInt8):csp s t 0 0=spB t s.data.toList:=by
 unfold csp spB
 rw [zfb,List.drop_zero];rfl
def zke (L:List (Bs)) (e:TypeId) (w:World) (en:Ending) (w':World):Prop :=
 ∃ v,en=.returned v/\w'.ownsRow w.heap.size e 1 v L.length (sc L)/\Below w.heap.size w w'
theorem zAk (h:w'.ownsRow w.heap.size e 1 v L.length (sc L)) (hb:Below w.heap.size w w'):zke L e w (.returned v) w':=⟨v,rfl,h,hb⟩
theorem zAl {B:Nat} {M:List (Bs)} (h:w.ownsRow B e 1 v L.length (sc L)) (e1:L=M):w.ownsRow B e 1 v M.length (sc M):=e1 ▸ h
theorem zp3 (s:ByteArray) (t:UInt8) (ht:t≠92) (hm:s.size<=100000) (w:World) :
  Calls prog 121 #[.string s,.int .u8 (t.toNat:Nat)] w (zke (spB t s.data.toList) 9 w):=by
 have HE:=Hy (zlo s)
 have HX:=Hy (zAj s t)
 have h8t:t.toNat<256:=t.toNat_lt
 have HT:=Hy ht
 obtain ⟨R,hR⟩:=Ex (spB t s.data.toList)
 rw [hR] at HX ⊢
 clear hR ht
 go_enter func121,ntmps121
 go_wp2
 go_loopw [5,6,7] (fun v fr iv wr=>∃ (O:List (Bs)) (f i:Nat),f<=s.size/\f<=i/\i<=s.size+1/\fr=.int .i64 (f:Nat)/\iv=.int .i64 (i:Nat)/\wr.ownsRow w.heap.size 9 1 v O.length (sc O)/\Below w.heap.size w wr/\O.length<=f/\O++csp s t f i=R) (fun _ _ iv _=>s.size+1 - (intOf iv).toNat)
 case atStart=>exact ⟨[],0,0,by omega,by omega,by omega,rfl,rfl,World.ownsRow_nil _ _ _ _,Br _,by simp,by rw [HX.o];rfl⟩
 case round =>
  obtain ⟨O,f,i,hf,rY,hi,rfl,rfl,ab,hb,aF,hinv⟩:=hrel
  obtain ⟨va,vc,rfl⟩:=zh ab
  by_cases aj:i<s.size
  ·have cW:(i:Int)<(s.size:Int):=by omega
   have h8:s[i].toNat<256:=s[i].toNat_lt
   have HC:=Hy (An (zAf s t f i rY aj) (An (zAg s t f i aj) (zAh s t f i rY aj)))
   have H:=Hy (An ab (An hb (An aF hinv)))
   have GM:(f:Int)<=(i:Int):=by omega
   have kC:(i:Int)<=(s.size:Int):=by omega
   have lU:=HE.o f i
   change s.extract f i=⟨(zQ s f i).toArray⟩ at lU
   clear ab hb aF hinv
   obtain ⟨c,hc⟩:=Ex (s[i])
   rw [hc] at h8 HC
   by_cases bE:c=92
   ·have q:((c.toNat:Int)==92)=true:=by rw [bE];rfl
    have HI:=Hy (HC.o.1 bE)
    clear bE
    go_wp2
    refine ⟨⟨O,f,i+2,hf,by omega,by omega,rfl,by go_num,H.o.1,H.o.2.1,H.o.2.2.1,by rw [<- HI.o];exact H.o.2.2.2⟩,by simp [intOf];omega⟩
   have q1:((c.toNat:Int)==92)=false:=by rw [beq_eq_false_iff_ne];intro hh;apply bE;apply UInt8.toNat_inj.1;show _=92;omega
   by_cases xx:c=t
   ·have q2:((c.toNat:Int)==(t.toNat:Int))=true:=by rw [xx];simp
    have HI:=Hy (HC.o.2.1 xx HT.o)
    clear bE xx
    go_wp2_with (at_builtin;refine zaj rfl (.tmp 25) (.tmp 30) 47 9 rfl w.heap.size 1 16 (.string ByteArray.empty) Tryz.dninfo9 underlying47 rfl De 1 [.string ⟨(zQ s f i).toArray⟩] rfl ?c0 _ O.length _ rfl _ rfl ?c3 H.o.1 ?c1 ?c2 H.o.2.1.size ?_)
    case c0=>first | rfl | (intro u hu;simp at hu;subst hu;rfl)
    case c1=>have:=H.o.2.2.1;unfold maxLen;omega
    case c2=>have:=H.o.2.2.1;omega
    case c3=>rfl
    intro v' w' g1 g2
    have g3:w'.ownsRow w.heap.size 9 1 v' (O++[zQ s f i]).length (sc (O++[zQ s f i])):=by rw [zei,List.length_append];exact g1
    have H2:=Hy (An g3 (H.o.2.1.trans g2))
    clear g1 g2 g3
    go_wp2
    refine ⟨⟨O++[zQ s f i],i+1,i+1,by omega,by omega,by omega,by go_num,by go_num,H2.o.1,H2.o.2,by have:=H.o.2.2.1;simp;omega,?_⟩,by simp [intOf];omega⟩
    rw [<- H.o.2.2.2,HI.o];simp
   have q2:((c.toNat:Int)==(t.toNat:Int))=false:=by rw [beq_eq_false_iff_ne];intro hh;apply xx;apply UInt8.toNat_inj.1;omega
   have HI:=Hy (HC.o.2.2 bE xx)
   clear bE xx
   go_wp2
   refine ⟨⟨O,f,i+1,hf,by omega,by omega,rfl,by go_num,H.o.1,H.o.2.1,H.o.2.2.1,by rw [<- HI.o];exact H.o.2.2.2⟩,by simp [intOf];omega⟩
  have cW:¬ (i:Int)<(s.size:Int):=by omega
  rw [zAi s t f i Om] at hinv
  have fD:(f:Int)<=(s.size:Int):=by omega
  have lU:=HE.o f s.size
  change s.extract f s.size=⟨(zQ s f s.size).toArray⟩ at lU
  have H:=Hy (An ab (An hb (An aF hinv)))
  clear ab hb aF hinv
  go_wp2_with (at_builtin;refine zaj rfl (.tmp 34) (.tmp 38) 47 9 rfl w.heap.size 1 16 (.string ByteArray.empty) Tryz.dninfo9 underlying47 rfl De 1 [.string ⟨(zQ s f s.size).toArray⟩] rfl ?c0 _ O.length _ rfl _ rfl ?c3 H.o.1 ?c1 ?c2 H.o.2.1.size ?_)
  case c0=>first | rfl | (intro u hu;simp at hu;subst hu;rfl)
  case c1=>have:=H.o.2.2.1;unfold maxLen;omega
  case c2=>have:=H.o.2.2.1;omega
  case c3=>rfl
  intro v' w' g1 g2
  have g3:w'.ownsRow w.heap.size 9 1 v' (O++[zQ s f s.size]).length (sc (O++[zQ s f s.size])):=by rw [zei,List.length_append];exact g1
  have H2:=Hy (An (zAl g3 H.o.2.2.2) (H.o.2.1.trans g2))
  clear g1 g2 g3
  go_wp2
  go_ret
  exact zAk H2.o.1 H2.o.2
theorem zAm (s:ByteArray) (hs:s.size<=140737488355328) (w:World):Calls prog 155 #[.string s] w (zcw (tlB (trB s.data.toList)) w):=by
 rw [<- zz4]
 obtain ⟨L,hL⟩:=Ex s.data.toList
 rw [hL]
 go_enter func155,ntmps155
 go_wp2
 go_loop [0] (fun v=>∃ x:ByteArray,v=.string x/\x.size<=140737488355328/\tlB x.data.toList=tlB L) (fun v=>zds v)
 case atStart=>exact ⟨s,rfl,hs,by rw [hL]⟩
 case round =>
  obtain ⟨x,rfl,lV,hx⟩:=hrel
  by_cases h:0<x.size/\x.data.toList.head? = some 32
  ·obtain ⟨hp,bA⟩:=h
   have hcut:=zcX x hp
   have h0:x[0]=32:=by rw [hcut] at bA;simpa using bA
   rw [hcut,zcP,if_pos h0] at hx
   have ht:((x[0].toNat:Int)==32)=true:=by rw [h0];rfl
   have hb:=x[0].toNat_lt
   have aH:=zbW x hp
   have h3:(1:Int)<=(x.size:Int):=by omega
   have h1:1<=x.size:=hp
   have hz:(x.extract 1 x.size).size=x.size - 1:=by rw [<- zl (x.extract 1 x.size),Lib.extract_to_end,List.length_drop,zl]
   have H:=Hy (An hx hz)
   obtain ⟨c,hc⟩:=Ex (x[0].toNat)
   rw [hc] at ht hb
   clear hx hcut h0 bA hz
   go_wp2
   refine ⟨⟨_,rfl,by rw [H.o.2];omega,H.o.1⟩,?_⟩
   show (x.extract 1 x.size).size<x.size
   rw [H.o.2];omega
  have hT:tlB x.data.toList=x.data.toList:=by
   by_cases hp:0<x.size
   ·have hcut:=zcX x hp
    rw [hcut,zcP,if_neg (fun e=>h ⟨hp,by rw [hcut,e];rfl⟩)]
   have hn:x.data.toList=[]:=List.eq_nil_of_length_eq_zero (by rw [zl];omega)
   rw [hn];rfl
  rw [hT] at hx
  have hw:x.size=0\/∃ hp:0<x.size,x[0]≠32:=by
   by_cases hp:0<x.size
   ·exact .inr ⟨hp,fun e=>h ⟨hp,by rw [zcX x hp,e];rfl⟩⟩
   exact .inl Om
  have H:=Hy hx
  clear h hT hx
  have key:∀ (P:Prop),(∀ y:ByteArray,y.size<=140737488355328->trB y.data.toList=trB (tlB L)->True)->True:=fun _ _=>trivial
  rcases hw with hp | ⟨hp,h0⟩
  ·have aH:=zcF x hp
   have HN:=Hy (show trB (tlB L)=x.data.toList by
    have hn:x.data.toList=[]:=List.eq_nil_of_length_eq_zero (by rw [zl];exact hp)
    rw [<- H.o,hn];rfl)
   clear key hp
   go_wp2
   go_loop [0] (fun v=>v=.string x) (fun v=>0)
   case atStart=>rfl
   case round =>
    obtain rfl:=hrel
    go_wp2
    go_ret
    exact zdp HN.o
  have aH:=zbW x hp
  have ht:((x[0].toNat:Int)==32)=false:=by
   exact zpN
  have hb:=x[0].toNat_lt
  obtain ⟨c,hc⟩:=Ex (x[0].toNat)
  rw [hc] at ht hb
  clear key h0
  go_wp2
  go_loop [0] (fun v=>∃ y:ByteArray,v=.string y/\y.size<=140737488355328/\trB y.data.toList=trB (tlB L)) (fun v=>zds v)
  case atStart=>exact ⟨x,rfl,lV,by rw [H.o]⟩
  case round =>
   obtain ⟨y,rfl,hys,hy⟩:=hrel
   clear aH ht hb hc
   by_cases hq:y.size=0
   ·have hn:y.data.toList=[]:=List.eq_nil_of_length_eq_zero (by rw [zl];exact hq)
    have aH:=zcF y hq
    rw [hn] at hy
    have HN:=Hy (hy.symm.trans (show trB []=y.data.toList by rw [hn];rfl))
    clear hy hn hq
    go_wp2
    go_ret
    exact zdp HN.o
   have dG:0<y.size:=by omega
   obtain ⟨n,hn⟩:∃ n,y.size=n+1:=⟨y.size - 1,by omega⟩
   have aH:=zbW y dG
   have hcut:=zlt y dG
   have eU:y[y.size - 1]=y[n]'Om:=by congr 1;omega
   rw [hcut,zls,eU] at hy
   rw [eU] at hcut
   have hb:=(y[n]'Om).toNat_lt
   have gF:y.extract 0 (y.size - 1)=y.extract 0 n:=by rw [hn];rfl
   rw [gF] at hy hcut
   by_cases h0:y[n]'Om=32
   ·rw [if_pos h0] at hy
    have ht:(((y[n]'Om).toNat:Int)==32)=true:=by rw [h0];rfl
    have hz:(y.extract 0 n).size=n:=by rw [<- zl (y.extract 0 n),Lib.extract_data,List.drop_zero,List.length_take,zl];omega
    have H2:=Hy (An hy hz)
    clear hy hcut h0 hq eU gF hz
    go_wp2
    refine ⟨⟨_,rfl,by rw [H2.o.2];omega,H2.o.1⟩,?_⟩
    show (y.extract 0 n).size<y.size
    rw [H2.o.2,hn];omega
   rw [if_neg h0] at hy
   have ht:(((y[n]'Om).toNat:Int)==32)=false:=by
    exact zpN
   rw [<- hcut] at hy
   have H2:=Hy hy
   clear hy hcut h0 hq eU gF
   go_wp2
   go_ret
   exact zdp H2.o.symm
end Go.Proofs.YtijglbolppkefaaGreatDoor
