/- A pair's text read, the. -/
import Derived.Test.YtijglbolppkefaaGreatDoorDrB
import Derived.Test.YtijglbolppkefaaGreatDoorDqG
import Derived.Test.YtijglbolppkefaaGreatDoorDqC
import Derived.Test.YtijglbolppkefaaGreatDoorGenB
set_option linter.unusedVariables false
set_option linter.unusedSimpArgs false
set_option maxHeartbeats 25600000
set_option maxRecDepth 100000
namespace Go.Proofs.YtijglbolppkefaaGreatDoor
open Go.Proofs.Tryz
open Go Go.RowKit Go.Proofs.BerK Go.Proofs.MemK Go.Proofs.UtfK
variable {w w' : World} {B n : Nat} {e e2 : TypeId} {u v : Value} {r : List Av} {vs : List Value} {D : List (List Av)}
theorem zjz {p:Prop} (h:p:=by
 go_wp2
 exact ⟨⟨k+1,X,by omega,by go_num,rfl,by omega,HI.o⟩,by simp [intOf];omega⟩):p:=h
theorem zol {p:Prop} (h:p:=by
 go_enter func86,ntmps86
 go_wp2
 go_ret2
 exact zfD HI.o (zfT _) (Br _)):p:=h
theorem zwZ (c:UInt8) (a:Bs) (h:∀ x∈a,x≠c) (u:Bs):zbo c (a++c :: u)=a/\zba c (a++c :: u)=u:=by
 induction a with
 | nil=>exact ⟨by simp [zbo],by simp [zba]⟩
 | cons d r ih =>
  have hd:=h d Sm
  obtain ⟨h1,h2⟩:=ih (fun x hx=>h x (by simp [hx]))
  refine ⟨?_,?_⟩
  ·unfold zbo at h1 ⊢
   rw [List.cons_append,List.takeWhile_cons_of_pos (by simpa using hd),h1]
  unfold zba at h2 ⊢
  rw [List.cons_append,List.dropWhile_cons_of_pos (by simpa using hd),h2]
theorem zw0 (c:UInt8) (a:Bs) (h:∀ x∈a,x≠c):zba c a=[]:=by
 induction a with
 | nil=>rfl
 | cons d r ih =>
  have hd:=h d Sm
  have h2:=ih (fun x hx=>h x (by simp [hx]))
  unfold zba at h2 ⊢
  rw [List.dropWhile_cons_of_pos (by simpa using hd),h2]
theorem zw1 (l:Bs) (h:∀ x∈l,x≠61):rpL l=none:=by
 unfold rpL
 rw [zw0 61 l h]
 unfold rpJ
 split
 ·rfl
 rfl
theorem zw2 (s:ByteArray) (k:Nat) (h:k<s.size) (he:s[k]=61) (ha:∀ x∈s.data.toList.take k,x≠61):rpL s.data.toList=rpJ (tyL (tlB (trB (s.data.toList.take k)))) (tlB (trB (s.data.toList.take k))) (rvL (s.data.toList.drop (k+1))):=by
 have hl:=zl s
 have hd:=zO s.data.toList k Om
 rw [zay s k h,he] at hd
 have hc:=zwZ 61 (s.data.toList.take k) ha (s.data.toList.drop (k+1))
 rw [<- hd,List.take_append_drop] at hc
 unfold rpL
 rw [hc.1,hc.2]
def zom (o:Option Av) (w:World) (en:Ending) (w':World):Prop :=
 ∃ T V:Bs,en=.returned (.tuple #[.agg #[.string ⟨T.toArray⟩,.string ⟨V.toArray⟩],.bool o.isSome])/\(o=none\/o=some (T,V))/\Below w.heap.size w w'
theorem zw3 (s:ByteArray) (hs:s.size<=140737488355328) (w:World) :
  Calls prog 122 #[.string s] w (zom (rpL s.data.toList) w):=by
 obtain ⟨W1,aB⟩:=Ex (w.alloc (.cells #[.string ⟨#[]⟩,.string ⟨#[]⟩] 144))
 have aw:=Nw aB
 have ax:=Nb aB
 have HW:=Hy (An aw ax)
 have MC:=Hy (zw1 s.data.toList)
 have MD:=Hy (zw2 s)
 obtain ⟨R,hR⟩:=Ex (rpL s.data.toList)
 rw [hR] at MC MD ⊢
 clear hR aw ax
 go_enter func122,ntmps122
 go_wp2
 go_loop [4] (fun v=>∃ k:Nat,k<=s.size/\v=.int .i64 (k:Nat)/\∀ x∈s.data.toList.take k,x≠61) (fun v=>s.size - (intOf v).toNat)
 case atStart=>exact ⟨0,by omega,rfl,by simp⟩
 case round =>
  obtain ⟨k,hk,rfl,hinv⟩:=hrel
  by_cases aj:k<s.size
  ·have bh:(k:Int)<(s.size:Int):=by omega
   have h8:s[k].toNat<256:=s[k].toNat_lt
   have uU:=zdb s k aj
   have HRk:=Hy (MD.o k aj)
   obtain ⟨c,hc⟩:=Ex (s[k])
   rw [hc] at uU
   have Bb:s[k].toNat=c.toNat:=by rw [hc]
   by_cases iA:c.toNat=61
   ·have q1:((c.toNat:Int) != 61)=false:=ziq iA
    have q2:((k:Int)==(s.size:Int))=false:=zck Om
    have hr:=HRk.o (by rw [hc];exact UInt8.toNat_inj.1 iA) hinv
    have qO:(s.data.toList.take k).length<=140737488355328:=by rw [List.length_take,zl];omega
    have ww:(s.data.toList.drop (k+1)).length<=140737488355328:=by rw [List.length_drop,zl];omega
    have d7:s.extract 0 k=⟨(s.data.toList.take k).toArray⟩:=by rw [<- zbD (s.extract 0 k),Lib.extract_data,List.drop_zero];rfl
    have jb:s.extract (k+1) s.size=⟨(s.data.toList.drop (k+1)).toArray⟩:=by rw [<- zbD (s.extract (k+1) s.size),Lib.extract_to_end]
    obtain ⟨A,hA⟩:=Ex (s.data.toList.take k)
    obtain ⟨B,hB⟩:=Ex (s.data.toList.drop (k+1))
    rw [hA] at hr qO d7
    rw [hB] at hr ww jb
    have HT:=Hy (zAm ⟨A.toArray⟩ (show A.length<=_ from qO))
    change Hd (∀ w,Calls prog _ _ w (zcw (tlB (trB A)) w)) at HT
    have jo:(tlB (trB A)).length<=140737488355328:=Nat.le_trans (zlv _) (Nat.le_trans (zse _) qO)
    obtain ⟨T,hT⟩:=Ex (tlB (trB A))
    rw [hT] at hr HT jo
    have HY:=Hy (zn2 ⟨T.toArray⟩ (show T.length<=_ from jo))
    change Hd (∀ w,Calls prog _ _ w (za1 (tyL T) w)) at HY
    have HV:=Hy (fun w=>zs1 ⟨B.toArray⟩ (show B.length<=_ from ww) w)
    change Hd (∀ w,Calls prog _ _ w (zf7 (rvL B) w)) at HV
    obtain ⟨ty,dA⟩:=Ex (tyL T)
    obtain ⟨o,ho⟩:=Ex (rvL B)
    rw [dA,ho] at hr
    rw [dA] at HY
    rw [ho] at HV
    have HR:=Hy hr
    have fM:(k:Int)<=(s.size:Int):=by omega
    have iC:(k:Int)+1<=(s.size:Int):=by omega
    have lh:(0:Int)<=(k:Int)+1:=by omega
    clear hA hB hT dA ho hr hinv uU iA qO ww jo hc
    cases ty with
    | false =>
     go_wp2_with fail
     refine (HT.o _).mono ?_
     rintro e w3 ⟨rfl,hw⟩
     obtain rfl:=hw.symm
     clear hw
     go_wp2_with fail
     refine (HY.o _).mono ?_
     rintro e w4 ⟨rfl,hw⟩
     obtain rfl:=hw.symm
     clear hw
     obtain ⟨b0,b1⟩:=zao HW.o.1
     have f0:=zc HW.o.1 0
     have f1:=zc HW.o.1 1
     have HF:=Hy (zci HW.o.1 (.string ⟨#[]⟩) (.string ⟨#[]⟩))
     go_wp2
     obtain ⟨g0,g1⟩:=zao HF.o
     refine bodyPost_ret (v:=RpV (none)) (by simp [results,results122,go_sem,RpV, *]) rfl ⟨[],[],?_,.inl HR.o,zcQ HW.o.2 Lr _ _⟩
     rw [HR.o];rfl
    | true =>
     go_wp2_with fail
     refine (HT.o _).mono ?_
     rintro e w3 ⟨rfl,hw⟩
     obtain rfl:=hw.symm
     clear hw
     go_wp2_with fail
     refine (HY.o _).mono ?_
     rintro e w4 ⟨rfl,hw⟩
     obtain rfl:=hw.symm
     clear hw
     cases o with
     | none =>
      have mJ:=Hy (HV.o W1)
      change Hd (Calls prog _ _ W1 fun en w'=>en=.returned (.tuple #[.string ⟨#[]⟩,.bool false])/\Below W1.heap.size W1 w') at mJ
      go_wp2_with fail
      refine mJ.o.mono ?_
      rintro e w6 ⟨rfl,az⟩
      have aD:=Ob HW.o.1 az
      have d9:=Hy (HW.o.2.trans (az.mono HW.o.2.size))
      clear az
      go_wp2_with fail
      refine (HT.o _).mono ?_
      rintro e w3 ⟨rfl,hw⟩
      obtain rfl:=hw.symm
      clear hw
      obtain ⟨b0,b1⟩:=zao aD
      have f0:=zc aD 0
      have f1:=zc aD 1
      have HF:=Hy (zci aD (.string ⟨T.toArray⟩) (.string ⟨#[]⟩))
      have pr:=Hy (show R=none from HR.o)
      clear aD
      go_wp2
      obtain ⟨g0,g1⟩:=zao HF.o
      refine bodyPost_ret (v:=.tuple #[.agg #[.string ⟨T.toArray⟩,.string ⟨#[]⟩],.bool false]) (by simp [results,results122,go_sem, *]) rfl ⟨T,[],?_,.inl pr.o,zcQ d9.o Lr _ _⟩
      rw [pr.o];rfl
     | some v =>
      have mJ:=Hy (HV.o W1)
      change Hd (Calls prog _ _ W1 fun en w'=>en=.returned (.tuple #[.string ⟨v.toArray⟩,.bool true])/\Below W1.heap.size W1 w') at mJ
      by_cases hv:v=[]
      ·have dS:v.isEmpty=true:=zio hv
       have pr:=Hy (show R=none by rw [HR.o,hv];rfl)
       clear hv
       go_wp2_with fail
       refine mJ.o.mono ?_
       rintro e w6 ⟨rfl,az⟩
       have aD:=Ob HW.o.1 az
       have d9:=Hy (HW.o.2.trans (az.mono HW.o.2.size))
       clear az
       go_wp2_with fail
       refine (HT.o _).mono ?_
       rintro e w3 ⟨rfl,hw⟩
       obtain rfl:=hw.symm
       clear hw
       obtain ⟨b0,b1⟩:=zao aD
       have f0:=zc aD 0
       have f1:=zc aD 1
       have HF:=Hy (zci aD (.string ⟨T.toArray⟩) (.string ⟨v.toArray⟩))
       clear aD
       go_wp2
       obtain ⟨g0,g1⟩:=zao HF.o
       refine bodyPost_ret (v:=.tuple #[.agg #[.string ⟨T.toArray⟩,.string ⟨v.toArray⟩],.bool false]) (by simp [results,results122,go_sem, *]) rfl ⟨T,v,?_,.inl pr.o,zcQ d9.o Lr _ _⟩
       rw [pr.o];rfl
      have dS:v.isEmpty=false:=zip hv
      have pr:=Hy (show R=some (T,v) by rw [HR.o];unfold rpJ;rw [if_pos rfl];exact if_neg hv)
      clear hv
      go_wp2_with fail
      refine mJ.o.mono ?_
      rintro e w6 ⟨rfl,az⟩
      have aD:=Ob HW.o.1 az
      have d9:=Hy (HW.o.2.trans (az.mono HW.o.2.size))
      clear az
      go_wp2_with fail
      refine (HT.o _).mono ?_
      rintro e w3 ⟨rfl,hw⟩
      obtain rfl:=hw.symm
      clear hw
      obtain ⟨b0,b1⟩:=zao aD
      have f0:=zc aD 0
      have f1:=zc aD 1
      have HF:=Hy (zci aD (.string ⟨T.toArray⟩) (.string ⟨v.toArray⟩))
      clear aD
      go_wp2
      obtain ⟨g0,g1⟩:=zao HF.o
      refine bodyPost_ret (v:=.tuple #[.agg #[.string ⟨T.toArray⟩,.string ⟨v.toArray⟩],.bool true]) (by simp [results,results122,go_sem, *]) rfl ⟨T,v,?_,.inr pr.o,zcQ d9.o Lr _ _⟩
      rw [pr.o];rfl
   have q1:((c.toNat:Int) != 61)=true:=zgb iA
   have HI:=Hy (show ∀ x∈s.data.toList.take (k+1),x≠61 by
    rw [uU]
    intro x hx
    rcases List.mem_append.1 hx with hx | hx
    ·exact hinv x hx
    obtain rfl:=List.mem_singleton.1 hx
    exact fun e=>iA (by rw [e];rfl))
   clear hinv uU iA hc
   go_wp2
   exact ⟨⟨k+1,by omega,by go_num,HI.o⟩,by simp [intOf];omega⟩
  obtain rfl:k=s.size:=by omega
  have pr:=Hy (MC.o (by rw [List.take_of_length_le (by rw [zl];exact Nat.le_refl _)] at hinv;exact hinv))
  have q2:((s.size:Int)==(s.size:Int))=true:=by simp
  obtain ⟨b0,b1⟩:=zao HW.o.1
  have f0:=zc HW.o.1 0
  have f1:=zc HW.o.1 1
  have HF:=Hy (zci HW.o.1 (.string ⟨#[]⟩) (.string ⟨#[]⟩))
  clear hinv aj
  go_wp2
  obtain ⟨g0,g1⟩:=zao HF.o
  refine bodyPost_ret (v:=RpV (none)) (by simp [results,results122,go_sem,RpV, *]) rfl ⟨[],[],?_,.inl pr.o,zcQ HW.o.2 Lr _ _⟩
  rw [pr.o];rfl
theorem zw4 (X r:Bs) (c:UInt8) (h:c≠32):X++bl (!X.isEmpty) (c :: r)=(X++[c])++bl (!(X++[c]).isEmpty) r:=by
 have e2:(!(X++[c]).isEmpty)=true:=by cases X <;> rfl
 rw [bl,if_pos h,e2];simp
theorem zw5 (X r:Bs) (h0:X≠[]) (h:hdn r=true):X++bl (!X.isEmpty) (32 :: r)=(X++[32])++bl (!(X++[32]).isEmpty) r:=by
 have e:(!X.isEmpty)=true:=by simpa using h0
 have e2:(!(X++[32]).isEmpty)=true:=by cases X <;> rfl
 rw [bl,if_neg Sm,if_pos ⟨e,h⟩,e,e2];simp
theorem zjA (X r:Bs) (h:X=[]\/hdn r=false):X++bl (!X.isEmpty) (32 :: r)=X++bl (!X.isEmpty) r:=by
 rw [bl,if_neg Sm,if_neg]
 rintro ⟨h1,h2⟩
 rcases h with h | h
 ·subst h;simp at h1
 rw [h] at h2;cases h2
theorem zw6 (s:ByteArray) (k:Nat):hdn (s.data.toList.drop k)=if h:k<s.size then decide (s[k]≠32) else false:=by
 have hl:=zl s
 split
 ·rename_i h
  have hd:=zO s.data.toList k Om
  rw [zay s k h] at hd
  rw [hd];simp [hdn,bne]
  by_cases e:s[k]=32 <;> simp [e]
 rw [List.drop_of_length_le Om];rfl
theorem zon (s:ByteArray) (hm:s.size<=35184372088832) (w:World):Calls prog 152 #[.string s] w (zcw (blL s.data.toList) w):=by
 have HN:=Hy (zw6 s)
 obtain ⟨R,hR⟩:=Ex (blL s.data.toList)
 have HR:=Hy hR
 rw [hR]
 clear hR
 go_enter func152,ntmps152
 go_wp2
 go_loop [3,4] (fun o v=>∃ (k:Nat) (X:Bs),k<=s.size/\v=.int .i64 (k:Nat)/\o=.string ⟨X.toArray⟩/\X.length<=k/\X++bl (!X.isEmpty) (s.data.toList.drop k)=R) (fun _ v=>s.size - (intOf v).toNat)
 case atStart=>exact ⟨0,[],by omega,rfl,rfl,by simp,HR.o⟩
 case round =>
  obtain ⟨k,X,hk,rfl,rfl,hX,hinv⟩:=hrel
  have hl:=zl s
  by_cases aj:k<s.size
  ·have bh:(k:Int)<(s.size:Int):=by omega
   have h8:s[k].toNat<256:=s[k].toNat_lt
   have hd:=zO s.data.toList k Om
   rw [zay s k aj] at hd
   rw [hd] at hinv
   have hE:=zn9 s k aj
   obtain ⟨c,hc⟩:=Ex (s[k])
   have Bb:s[k].toNat=c.toNat:=by rw [hc]
   rw [hc] at hinv hE
   have fM:(k:Int)+1<=(s.size:Int):=by omega
   have iC:(k:Int)<=(k:Int)+1:=by omega
   have lh:(0:Int)<=(k:Int)+1:=by omega
   have EP:¬ (9223372036854775807<X.length+1):=by omega
   by_cases bA:c.toNat=32
   ·obtain rfl:c=32:=UInt8.toNat_inj.1 bA
    change s[k].toNat=32 at Bb
    have dI:=HN.o (k+1)
    by_cases h0:X=[]
    ·rw [zjA X _ (.inl h0)] at hinv
     have q0:X.isEmpty=true:=zio h0
     have HI:=Hy hinv
     clear hinv h0 dI bA hc hd hl hE
     exact zjz
    have q0:X.isEmpty=false:=zip h0
    by_cases ph:k+1<s.size
    ·rw [dif_pos ph] at dI
     have Iq:(k:Int)+1<(s.size:Int):=by omega
     have h9:s[k+1].toNat<256:=s[k+1].toNat_lt
     obtain ⟨d,uV⟩:=Ex (s[k+1])
     have hxd:s[k+1].toNat=d.toNat:=by rw [uV]
     rw [uV] at dI
     by_cases mi:d.toNat=32
     ·have q1:((d.toNat:Int) != 32)=false:=ziq mi
      rw [zjA X _ (.inr (by rw [dI];simpa using UInt8.toNat_inj.1 mi))] at hinv
      have HI:=Hy hinv
      clear hinv h0 dI bA hc hd hl hE uV mi
      exact zjz
     have q1:((d.toNat:Int) != 32)=true:=zgb mi
     rw [zw5 X _ h0 (by rw [dI];simpa using fun e:d=32=>mi (by rw [e];rfl))] at hinv
     have HI:=Hy hinv
     clear hinv h0 dI bA hc hd hl hE uV mi
     go_wp2
     exact ⟨⟨k+1,X++[32],by omega,by go_num,by rw [<- zaE],by simp;omega,HI.o⟩,by simp [intOf];omega⟩
    have Iq:¬ ((k:Int)+1<(s.size:Int)):=by omega
    rw [dif_neg ph] at dI
    rw [zjA X _ (.inr dI)] at hinv
    have HI:=Hy hinv
    clear hinv h0 dI bA hc hd hl hE ph
    exact zjz
   have q1:((c.toNat:Int) != 32)=true:=zgb bA
   rw [zw4 X _ c (fun e=>bA (by rw [e];rfl))] at hinv
   have HI:=Hy hinv
   clear hinv bA hc hd hl
   go_wp2
   exact ⟨⟨k+1,X++[c],by omega,by go_num,by rw [<- zaE],by simp;omega,HI.o⟩,by simp [intOf];omega⟩
  obtain rfl:k=s.size:=by omega
  rw [List.drop_of_length_le Om] at hinv
  have HI:=Hy (show R=X by rw [<- hinv];simp [bl])
  clear hinv hl
  go_wp2
  go_ret
  exact ⟨by rw [HI.o];rfl,rfl⟩
theorem zoo (s:ByteArray) (hm:s.size<=35184372088832) (w:World):Calls prog 151 #[.string s] w (zG (zah s.data.toList) w):=by
 have HB:=Hy (zon s hm)
 have eJ:=zjM s.data.toList
 rw [zl] at eJ
 have HL:=Hy (fun w=>zb4 ⟨(blL s.data.toList).toArray⟩ (show (blL s.data.toList).length<=_ by omega) w)
 change Hd (∀ w,Calls prog _ _ w (zG (zah s.data.toList) w)) at HL
 obtain ⟨F,hF⟩:=Ex (zah s.data.toList)
 obtain ⟨B,hB⟩:=Ex (blL s.data.toList)
 rw [hB] at HB HL
 rw [hF] at HL ⊢
 clear hB hF eJ
 go_enter func151,ntmps151
 go_wp2_with fail
 refine (HB.o _).mono ?_
 rintro e w1 ⟨rfl,hw⟩
 obtain rfl:=hw.symm
 clear hw
 go_wp2_with fail
 refine (HL.o _).mono ?_
 rintro e w2 ⟨rfl,hb⟩
 go_wp2
 go_ret
 exact ⟨rfl,hb⟩
theorem zde (a b:List Av):avc (a++b)=avc a++avc b:=by simp [avc]
theorem zop (r:List Av) (k:Nat):(avc r).take (k*2)=avc (r.take k):=by
 induction r generalizing k with
 | nil=>simp [avc]
 | cons p r ih =>
  cases k with
  | zero=>simp [avc]
  | succ k=>rw [show (k+1)*2=k*2+1+1 by omega,zbN,List.take_succ_cons,List.take_succ_cons,ih,List.take_succ_cons,zbN]
theorem zoq (r:List Av) (k:Nat):(avc r).drop (k*2)=avc (r.drop k):=by
 induction r generalizing k with
 | nil=>simp [avc]
 | cons p r ih =>
  cases k with
  | zero=>simp [avc]
  | succ k=>rw [show (k+1)*2=k*2+1+1 by omega,zbN,List.drop_succ_cons,List.drop_succ_cons,ih,List.drop_succ_cons]
theorem zdf (r:List Av):∀ v∈avc r,v.oneCell'=true:=by
 induction r with
 | nil=>simp [avc]
 | cons p r ih =>
  intro v hv
  rw [zbN] at hv
  rcases List.mem_cons.1 hv with rfl | hv
  ·rfl
  rcases List.mem_cons.1 hv with rfl | hv
  ·rfl
  exact ih v hv
theorem zjB (g j:Nat):(⟨g,0,none⟩:Addr).add j=⟨g,j,none⟩:=by
 unfold Addr.add
 by_cases h:j=0 <;> simp [h]
def zbn (w:World) (B:Nat) (e:TypeId) (v:Value) (r:List Av):Prop:=w.ownsRow B e 2 v r.length (avc r)
theorem zw7 (h:zbn w B e v r):zb8 w v r:=by
 rcases h.2 with ⟨rfl,h0⟩ | ⟨g,cap,cur,rfl,_,hg,hn,_⟩
 ·exact ⟨none,0,by rw [h0],by omega,fun i hi=>by omega⟩
 refine ⟨_,cap,rfl,hn,fun i hi=>⟨g,0,rfl,zi hg,?_,?_⟩⟩
 ·have:=h.cells (g:=g) rfl (i*2) _ (zbO r i hi).1
  rw [zjB] at this
  rw [Nat.zero_add]
  exact this
 have:=h.cells (g:=g) rfl (i*2+1) _ (zbO r i hi).2
 rw [zjB] at this
 rw [Nat.zero_add]
 exact this
theorem zgO (h:zbn w B e v r) (hb:Below w.heap.size w w'):zbn w' B e v r:=zu h hb
def zdz (w:World) (B:Nat) (e2 e:TypeId) (v:Value) (vs:List Value) (D:List (List Av)):Prop :=
 vs.length=D.length/\w.ownsRow B e2 1 v D.length vs/\∀ i (h:i<D.length) (h':i<vs.length),zbn w B e vs[i] D[i]/\zaq vs[i] v
theorem zor (w:World) (B:Nat) (e2 e:TypeId):zdz w B e2 e (.slice none 0 0) [] []:=⟨rfl,World.ownsRow_nil _ _ _ _,fun i h=>by simp at h⟩
theorem zgP (h:zdz w B e2 e v vs D) (hb:Below w.heap.size w w'):zdz w' B e2 e v vs D :=
 ⟨h.1,zu h.2.1 hb,fun i hi cG=>⟨zu (h.2.2 i hi cG).1 hb,(h.2.2 i hi cG).2⟩⟩
theorem zjC {v':Value} (h:zdz w B e2 e v vs D) (hu:zbn w B e u r) (ia:zaq u v)
  (ab:w'.ownsRow B e2 1 v' (D.length+1) (vs++[u])) (hc:Chg (fun k=>some k=v.ownBlock) w w') (hv:v'.ownBlock=v.ownBlock\/∃ k,v'.ownBlock=some k/\w.heap.size<=k):zdz w' B e2 e v' (vs++[u]) (D++[r]):=by
 refine ⟨by simp [h.1],by rw [List.length_append];exact ab,fun i hi cG=>?_⟩
 by_cases aj:i<D.length
 ·have dr:i<vs.length:=by rw [h.1];exact aj
  obtain ⟨h1,h2⟩:=h.2.2 i aj dr
  rw [List.getElem_append_left aj,List.getElem_append_left dr]
  exact ⟨zz h1 hc (fun k hk hS=>h2 k hk hS.symm),zdd h2 h1 hv⟩
 have jd:i=D.length:=by simp at hi;omega
 subst jd
 have e1:(D++[r])[D.length]'hi=r:=by simp
 have e2:(vs++[u])[D.length]'cG=u:=by simp [<- h.1]
 rw [e1,e2]
 exact ⟨zz hu hc (fun k hk hS=>ia k hk hS.symm),zdd ia hu hv⟩
theorem zos {B2:Nat} {s s2 n2:Nat} {xs ys:List Value} (hv:w.ownsRow B2 e2 s2 v n2 ys) {w2:World} (hu:w2.ownsRow B e s u n xs) (hB:w.heap.size<=B):zaq u v:=by
 intro k h1 h2
 have a:=(hu.lt k h1).1
 have b:=(hv.lt k h2).2
 omega
theorem zot (h:zdz w B e2 e v vs D):zb9 w v D:=by
 rcases h.2.1.2 with ⟨rfl,h0⟩ | ⟨g,cap,cur,hv,_,hg,hn,_⟩
 ·exact ⟨none,0,by rw [h0],by omega,fun i hi=>by omega⟩
 subst hv
 refine ⟨_,cap,rfl,hn,fun i hi=>?_⟩
 have cG:i<vs.length:=by rw [h.1];exact hi
 refine ⟨g,0,vs[i],rfl,zi hg,?_,zw7 (h.2.2 i hi cG).1⟩
 rw [Nat.zero_add,h.2.1.cellAt i Om]
 exact List.getElem?_eq_getElem cG
theorem zw8 {t:Bs} {p:Av} (h:rpL t=some p):tyL p.1=true:=by
 unfold rpL rpJ at h
 split at h
 ·rename_i hb
  split at h
  ·cases h
  split at h
  ·cases h
  injection h with h;subst h;exact hb
 cases h
theorem zw9 {l:List (Bs)} (h:zaz l=some r):∀ p∈r,tyL p.1=true:=by
 induction l generalizing r with
 | nil=>injection h with h;subst h;simp
 | cons t l ih =>
  rw [zaz] at h
  cases hp:rpL t with
  | none=>rw [hp] at h;cases h
  | some p =>
   rw [hp] at h
   simp only [Option.map_eq_some_iff] at h
   obtain ⟨q,h1,rfl⟩:=h
   intro x hx
   rcases List.mem_cons.1 hx with rfl | hx
   ·exact zw8 hp
   exact ih h1 x hx
theorem zxa {l:List (List (Bs))} (h:rpp l=some D):∀ r∈D,∀ p∈r,tyL p.1=true:=by
 induction l generalizing D with
 | nil=>injection h with h;subst h;simp
 | cons t l ih =>
  rw [rpp] at h
  cases hp:zaz t with
  | none=>rw [hp] at h;cases h
  | some p =>
   rw [hp] at h
   simp only [Option.map_eq_some_iff] at h
   obtain ⟨q,h1,rfl⟩:=h
   intro x hx
   rcases List.mem_cons.1 hx with rfl | hx
   ·exact zw9 hp
   exact ih h1 x hx
theorem zxb {T:Bs} (h:tyL T=true):T.length<=64:=by
 simp only [tyL,Bool.and_eq_true,decide_eq_true_eq] at h
 exact h.1.2
theorem zxc {s:Bs} (h:4096<s.length):rdD s=([],3):=by unfold rdD;rw [if_pos h]
theorem zxd {s:Bs} (h:s.length<=4096) (h0:s≠[]):rdD s=match rpp ((spB 44 s).map (spB 43)) with
  | none=>([],5)
  | some d=>if lgD d=true then ([],3) else if ckD d≠0 then ([],ckD d) else (d,0):=by
 unfold rdD
 rw [if_neg Om,if_neg h0,zz1]
 cases rpp ((spB 44 s).map (spB 43)) <;> rfl
def zeJ (p:List (List Av) × Nat) (w:World) (en:Ending) (w':World):Prop :=
 ∃ v,en=.returned (.tuple #[v,.int .i64 (p.2:Nat)])/\zb9 w' v p.1/\Below w.heap.size w w'
theorem zfD {p:List (List Av) × Nat} (h:p=(D,n)) (h1:zb9 w' v D) (h2:Below w.heap.size w w'):zeJ p w (.returned (.tuple #[v,.int .i64 (n:Nat)])) w':=by subst h;exact ⟨v,rfl,h1,h2⟩
theorem zxe (D:List (List Av)) (r:List Av):(D++[r]).any (fun r=>decide (8<r.length))=(D.any (fun r=>decide (8<r.length)) || decide (8<r.length)):=by simp
theorem zxf (t:UInt8) (L:List (Bs)) (i:Nat) (h:i<L.length):(L.map (spB t)).drop i=spB t L[i] :: (L.map (spB t)).drop (i+1):=by
 rw [zO _ i (by simpa using h)];simp
theorem zxg (s:ByteArray) (hm:s.size<=4096) (h0:0<s.size) (w:World) :
  Calls prog 86 #[.string s] w (zeJ (rdD s.data.toList) w):=by
 have hl:=zl s
 have dD:=zxd (s:=s.data.toList) Om (by intro e;rw [e] at hl;simp at hl;omega)
 obtain ⟨R,hR⟩:=Ex (rdD s.data.toList)
 rw [hR] at dD ⊢
 have qQ:=Hy (zp3 s 44 De Om)
 change Hd (∀ w,Calls prog _ #[.string s,.int .u8 44] w _) at qQ
 obtain ⟨ME,Ir⟩:=zpZ 44 s.data.toList
 obtain ⟨L,hL⟩:=Ex (spB 44 s.data.toList)
 rw [hL] at dD qQ ME Ir
 obtain ⟨PS,It⟩:=Ex (L.map (spB 43))
 have MF:=Hy (fun i h=>zxf 43 L i h)
 rw [It] at dD MF
 have hPL:PS.length=L.length:=by rw [<- It];simp
 have HR:=Hy dD
 have wq:=Hy Ir
 have xk:L.length<=4097:=by omega
 have dS:=zbW s h0
 have hms:¬ ((4096:Int)<(s.size:Int)):=by omega
 clear hR dD ME Ir hL It hl
 go_enter func86,ntmps86
 go_wp2_with fail
 refine (qQ.o _).mono ?_
 rintro e w1 ⟨lv,rfl,kI,au⟩
 obtain ⟨la,lc,rfl⟩:=zh kI
 have cV:=Hy (An (zeC kI) au)
 clear kI au
 go_wp2
 go_loopw [4,5,7] (fun o lg v wr=>∃ (i:Nat) (vs:List Value) (D:List (List Av)) (b:Bool),i<=L.length/\v=.int .i64 (i:Nat)/\D.length=i/\zdz wr w1.heap.size 140 144 o vs D/\Below w1.heap.size w1 wr /\
  lg=.bool b/\(D.any fun r=>decide (8<r.length))=b/\rpp PS=(rpp (PS.drop i)).map (D ++ ·)) (fun _ _ v _=>L.length - (intOf v).toNat)
 case atStart=>exact ⟨0,[],[],false,by omega,rfl,rfl,zor _ _ _ _,Br _,rfl,rfl,by rw [List.drop_zero];simp⟩
 case round =>
  obtain ⟨i,vs,D,lg,hi,rfl,hD,bC,hb,rfl,r7,hinv⟩:=hrel
  obtain ⟨ga,gc,rh⟩:=zh bC.2.1
  by_cases aj:i<L.length
  ·have cW:(i:Int)<(L.length:Int):=by omega
   obtain ⟨la',lc',hlv,MG⟩:=cV.o.1
   injection hlv with hlv1 _ hlv3
   subst hlv1 hlv3
   obtain ⟨lg2,rfl,ro,aP⟩:=MG i aj
   have e1:=(hb.cell (p:=⟨lg2,i,none⟩) ro).trans aP
   have gZ:=wq.o _ (List.getElem_mem aj)
   have wl:=MF.o i aj
   obtain ⟨x,hx⟩:=Ex (L[i])
   rw [hx] at e1 gZ wl
   have Iu:=Hy (zp3 ⟨x.toArray⟩ 43 De (show x.length<=_ by rw [zl] at gZ;omega))
   change Hd (∀ w,Calls prog _ #[.string ⟨x.toArray⟩,.int .u8 43] w (zke (spB 43 x) _ w)) at Iu
   obtain ⟨MH,Iv⟩:=zpZ 43 x
   obtain ⟨M,hM⟩:=Ex (spB 43 x)
   rw [hM] at Iu MH Iv wl
   rw [wl] at hinv
   have hMn:M.length<=4097:=by rw [zl] at gZ;omega
   have HM2:=Hy (show ∀ y∈M,y.length<=4096 from fun y hy=>by have:=Iv y hy;rw [zl] at gZ;omega)
   have H:=Hy (An bC (An hb (An hinv (An r7 (An rh hD)))))
   have hDi:D.length<=4097:=by omega
   clear bC hb hinv MG hx hM MH Iv wl aP gZ r7 rh hD
   go_wp2_with fail
   refine (Iu.o _).mono ?_
   rintro e w2 ⟨mv,rfl,Iw,ak⟩
   obtain ⟨ma,mc,rfl⟩:=zh Iw
   have pu:=Hy (An (zeC Iw) ak)
   clear Iw ak
   go_wp2
   go_loopw [9,10,11,12] (fun rv v _ _ MI=>∃ (k:Nat) (Q:List Av),k<=M.length/\v=.int .i64 (k:Nat)/\Q.length=k/\zbn MI w2.heap.size 144 rv Q/\Below w2.heap.size w2 MI/\zaz M=(zaz (M.drop k)).map (Q ++ ·)) (fun _ v _ _ _=>M.length - (intOf v).toNat)
   case atStart=>exact ⟨0,[],by omega,rfl,rfl,World.ownsRow_nil _ _ _ _,Br _,by rw [List.drop_zero];simp⟩
   case round =>
    obtain ⟨k,Q,hk,rfl,hQ,ab,eh,hinv⟩:=hrel
    obtain ⟨qa,qc,rfl⟩:=zh ab
    by_cases cZ:k<M.length
    ·have bh:(k:Int)<(M.length:Int):=by omega
     obtain ⟨ma',mc',hmv,MJ⟩:=pu.o.1
     injection hmv with hmv1 _ hmv3
     subst hmv1 hmv3
     obtain ⟨mg,rfl,hmg,cI⟩:=MJ k cZ
     have e2:=(eh.cell (p:=⟨mg,k,none⟩) hmg).trans cI
     have o7:=HM2.o _ (List.getElem_mem cZ)
     have HN:=Hy (zlU M k cZ)
     have rS:=Hy (fun q=>zlV M k cZ (p:=q))
     obtain ⟨y,hy⟩:=Ex (M[k])
     rw [hy] at e2 o7 HN rS
     have HP:=Hy (fun w=>zw3 ⟨y.toArray⟩ (show y.length<=_ by omega) w)
     change Hd (∀ w,Calls prog _ _ w (zom (rpL y) w)) at HP
     obtain ⟨o,ho⟩:=Ex (rpL y)
     rw [ho] at HP HN rS
     have H2:=Hy (An ab (An eh (An hinv hQ)))
     clear ab eh hinv MJ hy ho cI o7 hQ
     go_wp2_with fail
     refine (HP.o _).mono ?_
     rintro e w3 ⟨T,V,rfl,uS,aK⟩
     obtain ⟨W4,dk⟩:=Ex (w3.alloc (.cells #[.string ⟨T.toArray⟩,.string ⟨V.toArray⟩] 144))
     have bf:=Nb dk
     have aw:=Nw dk
     obtain ⟨d1,d2⟩:=zao aw
     have uW:=aK.trans (bf.mono aK.size)
     have HB:=Hy (An (H2.o.2.1.trans (uW.mono H2.o.2.1.size)) (zgO H2.o.1 uW))
     have HH:=Hy bf
     clear aK uW aw bf
     rcases uS with uS | uS
     ·subst uS
      have HI:=Hy (show R=([],5) by
       rw [HR.o,H.o.2.2.1,rpp,H2.o.2.2.1,HN.o rfl];rfl)
      have dL:Below w.heap.size w W4:=cV.o.2.trans (((H.o.2.1.trans ((pu.o.2.trans (HB.o.1.mono pu.o.2.size)).mono H.o.2.1.size)).mono cV.o.2.size))
      have HF:=Hy dL
      clear dL
      go_wp2
      go_ret2
      exact zfD HI.o (zfT _) HF.o
     subst uS
     have HI:=Hy (show zaz M=(zaz (M.drop (k+1))).map ((Q++[(T,V)]) ++ ·) by
      rw [H2.o.2.2.1,rS.o (T,V) rfl,Option.map_map];congr 1;funext q;simp)
     go_wp2_with (at_builtin;refine zaj rfl (.tmp 48) (.tmp 50) 140 144 rfl w2.heap.size 2 32 (.agg #[.string ByteArray.empty,.string ByteArray.empty]) Tryz.dninfo144 underlying140 rfl De 1 [.string ⟨T.toArray⟩,.string ⟨V.toArray⟩] rfl ?c0 _ Q.length _ rfl _ rfl ?c3 HB.o.2 ?c1 ?c2 HB.o.1.size ?_)
     case c0=>intro u hu;simp at hu;rcases hu with rfl | rfl <;> rfl
     case c1=>have:=H2.o.2.2.2;unfold maxLen;omega
     case c2=>have:=H2.o.2.2.2;omega
     case c3=>first | rfl | simp
     intro v' w' g1 g2
     have g3:zbn w' w2.heap.size 144 v' (Q++[(T,V)]):=by unfold zbn;rw [zde,List.length_append];exact g1
     have H5:=Hy (An g3 (HB.o.1.trans g2))
     clear g1 g2 g3
     go_wp2
     exact ⟨⟨k+1,Q++[(T,V)],by omega,by go_num,by simp [H2.o.2.2.2],H5.o.1,H5.o.2,HI.o⟩,by simp [intOf];omega⟩
    obtain rfl:k=M.length:=by omega
    have ei:zaz M=some Q:=by rw [hinv,List.drop_of_length_le Lr];simp [zaz]
    have hI:rpp PS=(rpp (PS.drop (i+1))).map ((D++[Q]) ++ ·):=by
     rw [H.o.2.2.1,rpp,ei]
     simp only [Option.map_map]
     congr 1;funext q;simp
    have ro:((D++[Q]).any fun r=>decide (8<r.length))=(lg || decide (8<Q.length)):=by rw [zxe,H.o.2.2.2.1]
    have eB:=zgP (zgP H.o.1 pu.o.2) (eh.mono Lr)
    have ia:=zos (B2:=w1.heap.size) (zgP H.o.1 pu.o.2).2.1 ab Lr
    have bp:Below w1.heap.size w1 wr:=H.o.2.1.trans ((pu.o.2.trans (eh.mono pu.o.2.size)).mono H.o.2.1.size)
    have MK:zbn wr w1.heap.size 144 (.slice qa Q.length qc) Q:=zaK ab (by have:=H.o.2.1.size;have:=pu.o.2.size;omega)
    have et:=H.o.2.2.2.2.1
    have HX:=Hy (An hI (An ro (An eB (An ia (An bp MK)))))
    have My:∃ b,decide (8<Q.length)=b/\decide ((8:Int)<(Q.length:Int))=b:=⟨_,rfl,by rw [decide_eq_decide];omega⟩
    obtain ⟨b8,bz,hb8'⟩:=My
    have HQ8:=Hy bz
    clear hQ ab eh hinv ei hI ro eB ia bp MK bz
    subst et
    cases lg with
    | true =>
     have HLG:=Hy (show (true || decide (8<Q.length))=true from rfl)
     go_wp2_with (at_builtin;refine zaM rfl (.tmp 58) (.tmp 60) 136 140 rfl w1.heap.size 1 24 (.slice none 0 0) Tryz.dninfo140 underlying136 rfl De [.slice qa Q.length qc] rfl ?c0 _ D.length _ rfl _ rfl ?c3 HX.o.2.2.1.2.1 ?c1 ?c2 HX.o.2.2.2.2.1.size ?_)
     case c0=>first | rfl | (intro u hu;simp at hu;subst hu;rfl)
     case c1=>unfold maxLen;omega
     case c2=>omega
     case c3=>first | rfl | simp
     intro v' w' g1 g2 g3
     have hg:=zjC HX.o.2.2.1 HX.o.2.2.2.2.2 HX.o.2.2.2.1 g1 g2 g3
     have eO:=zbm HX.o.2.2.2.2.1 HX.o.2.2.2.2.1.size HX.o.2.2.1.2.1 g2
     have H9:=Hy (An hg eO)
     clear g1 g2 g3 hg eO
     go_wp2
     exact ⟨⟨i+1,vs++[.slice qa Q.length qc],D++[Q],true,by omega,by go_num,by simp [H.o.2.2.2.2.2],H9.o.1,H9.o.2,rfl,by rw [HX.o.2.1];rfl,HX.o.1⟩,by simp [intOf];omega⟩
    | false =>
     go_wp2_with (at_builtin;refine zaM rfl (.tmp 58) (.tmp 60) 136 140 rfl w1.heap.size 1 24 (.slice none 0 0) Tryz.dninfo140 underlying136 rfl De [.slice qa Q.length qc] rfl ?c0 _ D.length _ rfl _ rfl ?c3 HX.o.2.2.1.2.1 ?c1 ?c2 HX.o.2.2.2.2.1.size ?_)
     case c0=>first | rfl | (intro u hu;simp at hu;subst hu;rfl)
     case c1=>unfold maxLen;omega
     case c2=>omega
     case c3=>first | rfl | simp
     intro v' w' g1 g2 g3
     have hg:=zjC HX.o.2.2.1 HX.o.2.2.2.2.2 HX.o.2.2.2.1 g1 g2 g3
     have eO:=zbm HX.o.2.2.2.2.1 HX.o.2.2.2.2.1.size HX.o.2.2.1.2.1 g2
     have H9:=Hy (An hg eO)
     clear g1 g2 g3 hg eO
     go_wp2
     exact ⟨⟨i+1,vs++[.slice qa Q.length qc],D++[Q],b8,by omega,by go_num,by simp [H.o.2.2.2.2.2],H9.o.1,H9.o.2,rfl,by rw [HX.o.2.1,HQ8.o];rfl,HX.o.1⟩,by simp [intOf];omega⟩
  obtain rfl:i=L.length:=by omega
  have ei:rpp PS=some D:=by rw [hinv,List.drop_of_length_le Om];simp [rpp]
  have dA:=zxa ei
  have eH:=zot bC
  have dL:Below w.heap.size w wr:=cV.o.2.trans (hb.mono cV.o.2.size)
  have hr:=HR.o
  rw [ei] at hr
  have iy:R=if (lg || decide (32<D.length))=true then ([],3) else if ckD D≠0 then ([],ckD D) else (D,0):=by
   rw [hr]
   simp only [lgD,r7]
   rw [Bool.or_comm]
  subst rh
  have dq:=Hy (zlk _ D (fun r hr p hp=>by have:=zxb (dA r hr p hp);omega) wr eH)
  have H:=Hy (An eH (An dL iy))
  obtain ⟨N,hN⟩:=Ex D.length
  rw [hN] at hD H dq ⊢
  clear bC hb hinv ei dA eH dL hr iy r7 hD hi aj hPL xk
  by_cases fJ:lg=true\/32<N
  ·have HI:=Hy (show R=([],3) by
    rw [H.o.2.2,if_pos]
    rcases fJ with h | h
    ·rw [h];rfl
    simp [h])
   have Cy:lg=true\/(lg=false/\(32:Int)<(N:Int)):=by
    cases lg with
    | true=>exact .inl rfl
    | false=>exact .inr ⟨rfl,by rcases fJ with h | h;cases h;omega⟩
   clear fJ
   rcases Cy with rfl | ⟨rfl,q⟩
   all_goals
    go_wp2
    go_ret2
    exact zfD HI.o (zfT _) H.o.2.1
  rw [not_or] at fJ
  have Ix:lg=false:=by simpa using fJ.1
  have q:¬ (32:Int)<(N:Int):=by omega
  subst Ix
  have hI:=H.o.2.2
  rw [if_neg So] at hI
  have HI:=Hy hI
  obtain ⟨ck,dP⟩:=Ex (ckD D)
  rw [dP] at HI dq
  clear fJ hI dP
  by_cases cF:ck=0
  ·subst cF
   have wn:=Hy (show R=(D,0) by rw [HI.o];simp)
   go_wp2_with fail
   refine dq.o.mono ?_
   rintro e w3 ⟨rfl,aK⟩
   have HF:=Hy (An (zoa H.o.1 aK) (H.o.2.1.trans (aK.mono H.o.2.1.size)))
   clear aK
   go_wp2
   go_ret2
   exact zfD wn.o HF.o.1 HF.o.2
  have hq:((ck:Int) != 0)=true:=by rw [bne_iff_ne];omega
  have wn:=Hy (show R=([],ck) by rw [HI.o,if_pos cF])
  clear cF
  go_wp2_with fail
  refine dq.o.mono ?_
  rintro e w3 ⟨rfl,aK⟩
  have HF:=Hy (H.o.2.1.trans (aK.mono H.o.2.1.size))
  clear aK
  go_wp2
  go_ret2
  exact zfD wn.o (zfT _) HF.o
theorem zgQ (s:ByteArray) (w:World):Calls prog 86 #[.string s] w (zeJ (rdD s.data.toList) w):=by
 have hl:=zl s
 by_cases h1:4096<s.size
 ·have HI:=Hy (zxc (s:=s.data.toList) Om)
  have q:(4096:Int)<(s.size:Int):=by omega
  clear h1 hl
  exact zol
 by_cases h0:s.size=0
 ·have hn:s.data.toList=[]:=List.eq_nil_of_length_eq_zero Om
  have HI:=Hy (show rdD s.data.toList=([],0) by rw [hn];rfl)
  have q:¬ (4096:Int)<(s.size:Int):=by omega
  have dS:=zcF s h0
  clear h1 hl h0 hn
  exact zol
 exact zxg s Om Om w
end Go.Proofs.YtijglbolppkefaaGreatDoor
