/- The document's Check: whether an. -/
import Derived.Test.YtijglbolppkefaaGreatDoorScV
import Derived.Test.YtijglbolppkefaaGreatDoorMScQ
set_option linter.unusedVariables false
set_option linter.unusedSimpArgs false
set_option maxHeartbeats 25600000
set_option maxRecDepth 100000
namespace Go.Proofs.YtijglbolppkefaaGreatDoor
open Go.Proofs.Tryz
open Go Go.RowKit Go.Proofs.BerK Go.Proofs.MemK Go.Proofs.UtfK
variable {A : List Atr} {C : List Cl} {N : List (Bs)} {own : Nat}
theorem zqu {p:Prop} (h:p:=by
 go_wp2
 exact ⟨⟨i+1,by omega,by go_num,H8.o.1,H8.o.2,gM.o⟩,by simp [intOf];omega⟩):p:=h
theorem zqv {p:Prop} (h:p:=by
 go_wp2
 exact ⟨⟨p+1,by omega,by go_num,n8.o.1,xy.o⟩,by simp [intOf];omega⟩):p:=h
theorem zA5 (T:List Ty) (C:List Cl) (A:List Atr):zaP T C A=if zbw T A≠0 then zbw T A else if zaW C ((A.map (tyG T)).map (·.1)) A=false then 65 else 0:=by
 rw [zwI]
 unfold zbw
 repeat' split
 all_goals simp_all
theorem zA6 {T:List Ty} (h:zbw T A=0):zaC T A=true/\(∀ k (hk:k<A.length),A[k].2.length≠0)/\((A.map (tyG T)).map (·.1)).Nodup:=by
 have hv:zbG T A=0:=by
  by_cases e:zbG T A=0
  ·exact e
  unfold zbw at h;rw [if_pos e] at h;exact absurd h e
 have ho:onS (A.map (tyG T)) A=0:=by unfold zbw at h;rw [hv,if_neg Sm] at h;exact h
 have h1:zaC T A=true:=by
  cases hq:zaC T A
  ·unfold zbG at hv;rw [hq] at hv;simp at hv
  rfl
 refine ⟨h1,fun k hk e=>?_,?_⟩
 ·unfold zbG at hv
  rw [h1,zqE k hk e] at hv
  simp at hv
 by_cases hn:((A.map (tyG T)).map (·.1)).Nodup
 ·exact hn
 rw [zqA hn] at ho;cases ho
theorem zhN (h:ixL N zM=some own) (ho:own<A.length) :
  zaW C N A=(zb3 C A[own].2 && ((A[own].2.filterMap (scC C)).all fun c=>c.2.1.all (inL N)) && (N.all fun x=>x==zM || inL (alS (A[own].2.filterMap (scC C))) x)):=by
 unfold zaW;rw [h];simp [ho]
theorem zA7 (h:ixL N zM=some own) (ho:own<A.length) (j:Nat) (hj:j<A[own].2.length) {c:Cl} (hc:scC C A[own].2[j]=some c) (q:Nat) (hq:q<c.2.1.length) (hx:inL N c.2.1[q]=false):zaW C N A=false:=by
 rw [zhN h ho]
 have:((A[own].2.filterMap (scC C)).all fun c=>c.2.1.all (inL N))=false:=by
  rw [List.all_eq_false]
  refine ⟨c,List.mem_filterMap.2 ⟨_,List.getElem_mem hj,hc⟩,?_⟩
  rw [Bool.not_eq_true,List.all_eq_false]
  exact ⟨_,List.getElem_mem hq,by rw [hx];simp⟩
 rw [this];simp
theorem zA8 (h:ixL N zM=some own) (ho:own<A.length) (j:Nat) (hj:j<A[own].2.length) (hc:scC C A[own].2[j]=none):zaW C N A=false:=by
 rw [zhN h ho,zrn j hj hc];rfl
theorem zA9 (h:ixL N zM=some own) (ho:own<A.length) (i:Nat) (hi:i<N.length) (h1:(N[i]==zM)=false) (h2:inL (alS (A[own].2.filterMap (scC C))) N[i]=false):zaW C N A=false:=by
 rw [zhN h ho]
 have:(N.all fun x=>x==zM || inL (alS (A[own].2.filterMap (scC C))) x)=false:=by
  rw [List.all_eq_false]
  exact ⟨_,List.getElem_mem hi,by rw [h1,h2];simp⟩
 rw [this];simp
theorem zBa (h:ixL N zM=some own) (ho:own<A.length) (h1:∀ j (hj:j<A[own].2.length),∃ c,scC C A[own].2[j]=some c/\∀ q (hq:q<c.2.1.length),inL N c.2.1[q]=true)
  (h2:∀ i (hi:i<N.length),(N[i]==zM || inL (alS (A[own].2.filterMap (scC C))) N[i])=true):zaW C N A=true:=by
 rw [zhN h ho]
 have e1:zb3 C A[own].2=true:=zro (fun k hk=>by obtain ⟨c,hc,_⟩:=h1 k hk;rw [hc];rfl)
 have e2:((A[own].2.filterMap (scC C)).all fun c=>c.2.1.all (inL N))=true:=by
  rw [List.all_eq_true]
  intro c hc
  obtain ⟨s,hs,bk⟩:=List.mem_filterMap.1 hc
  obtain ⟨j,hj,rfl⟩:=List.getElem_of_mem hs
  obtain ⟨c',E4,hm⟩:=h1 j hj
  rw [bk] at E4
  injection E4 with E4
  subst E4
  rw [List.all_eq_true]
  intro m ct
  obtain ⟨q,hq,rfl⟩:=List.getElem_of_mem ct
  exact hm q hq
 have e3:(N.all fun x=>x==zM || inL (alS (A[own].2.filterMap (scC C))) x)=true:=by
  rw [List.all_eq_true]
  intro x hx
  obtain ⟨i,hi,rfl⟩:=List.getElem_of_mem hx
  exact h2 i hi
 rw [e1,e2,e3];rfl
theorem zBb {vs:List (Bs)} (k:Nat) (hk:k<vs.length) {c:Cl} (h:scC C vs[k]=some c):alS ((vs.take (k+1)).filterMap (scC C))=alS ((vs.take k).filterMap (scC C))++c.2.1++c.2.2:=by
 rw [List.take_succ_eq_append_getElem hk,List.filterMap_append]
 unfold alS
 rw [List.flatMap_append]
 simp [h]
theorem zBc {s:Bs} {c:Cl} (h:scC C s=some c):∃ d∈C,c=(za d.1,d.2.1.map za,d.2.2.map za):=by
 unfold scC at h
 cases hq:C.find? (fun t=>za t.1==za s) with
 | none=>rw [hq] at h;cases h
 | some d =>
  rw [hq] at h
  injection h with h
  exact ⟨d,List.mem_of_find?_eq_some hq,h.symm⟩
def zkq (w:World) (A:List Atr) (N:List (Bs)) (v:Value):Prop :=
 (ixL N zM=none/\v=.slice none 0 0)\/∃ own vs,ixL N zM=some own/\A[own]?.map (·.2)=some vs/\∃ va vc,v=.slice va vs.length vc/\TxR w v vs
theorem zqw (T:List Ty) (C:List Cl) (A:List Atr) (tv cv av:Value) (dn:ByteArray) (w:World) (h:zL w tv T) (h2:zai w cv C) (hA:zaB w av A) (jU:T.length<=1000000) (E5:C.length<=1000000) (dL:∀ t∈T,t.1.length<=140737488355328) (pP:∀ t∈C,t.1.length<=140737488355328)
  (kg:∀ t∈C,t.2.1.length+t.2.2.length<=1000/\(∀ x∈t.2.1,x.length<=140737488355328)/\∀ x∈t.2.2,x.length<=140737488355328) (hl:A.length<=1000000)
  (hv:∀ a∈A,a.1.length<=140737488355328/\a.2.length<=1000/\∀ s∈a.2,s.length<=140737488355328) :
  Calls prog 49 #[.agg #[tv,cv],.agg #[.string dn,av]] w (ScI (zaP T C A:Nat) w):=by
 have Nt:=Hy (fun w' (hb:Below w.heap.size w w')=>zBp T A tv cv av dn w' (zbc h hb) (zbL hA hb) jU dL hl (fun a ha=>⟨(hv a ha).1,by have:=(hv a ha).2.1;omega⟩))
 have iJ:=Hy (fun w' (hb:Below w.heap.size w w') s (hs:s.length<=140737488355328)=>zAX C tv cv s w' (zed h2 hb) E5 pP (fun t ht=>⟨by have:=(kg t ht).1;omega,by have:=(kg t ht).1;omega,(kg t ht).2⟩) hs)
 have HCm:=Hy (show ∀ s c,scC C s=some c->c.2.1.length+c.2.2.length<=1000 from fun s c bk=>by
  obtain ⟨d,hd,rfl⟩:=zBc bk
  have:=(kg d hd).1
  simpa using this)
 have gU:zaP T C A=zaP T C A:=rfl
 conv at gU=>rhs;rw [zA5]
 obtain ⟨S,hS⟩:=Ex (zaP T C A)
 rw [hS] at gU ⊢
 obtain ⟨a,c,rfl,ae⟩:=hA
 have HM:=Hy ae
 have HV:=Hy hv
 obtain ⟨n,hn⟩:=Ex A.length
 have HL:=Hy hn
 rw [hn] at hl Nt ⊢
 obtain ⟨W1,aB⟩:=Ex ((w.alloc (.cells #[tv,cv] 31)).alloc (.cells #[.string dn,.slice a n c] 39))
 have HX:=Hy (zhO aB)
 have br:=Hy aB
 have aD:=zhO aB
 obtain ⟨s0,s1⟩:=zf aD.1
 obtain ⟨d0,d1⟩:=zf aD.2.1
 rw [<- aB] at s0 s1 d0 d1
 have vy:=Hy (Nt.o W1 aD.2.2.1)
 obtain ⟨K,hK⟩:=Ex (zbw T A)
 rw [hK] at vy gU
 have HK:=Hy hK
 clear ae hv hn aB h h2 dL pP kg aD hS hK
 by_cases cX:K=0
 case neg =>
  rw [if_pos cX] at gU
  have HS:=Hy gU
  have q1:((K:Int) != 0)=true:=by rw [bne_iff_ne];omega
  clear cX gU
  go_enter func49,ntmps49
  go_wp2_with fail
  rw [br.o]
  refine vy.o.mono ?_
  rintro en w5 ⟨rfl,ai⟩
  have bY:=Hy (HX.o.2.2.1.trans (ai.mono HX.o.2.2.1.size))
  clear ai s0 s1 d0 d1
  go_wp2
  go_ret
  exact zaV (by rw [HS.o]) bY.o
 subst cX
 rw [if_neg Sm] at gU
 obtain ⟨af,aH,bR⟩:=zA6 HK.o
 rw [zru af] at gU bR
 obtain ⟨N,hN⟩:=Ex (A.map fun a=>za a.1)
 rw [hN] at gU bR
 have HN:=Hy (show N.length=A.length/\∀ i (h1:i<N.length) (h2:i<A.length),N[i]=za A[i].1 by subst hN;simp)
 have E6:=Hy (show zaW C N A=false->S=65 from fun h=>by rw [gU,if_pos h])
 have HSg:=Hy (show zaW C N A=true->S=0 from fun h=>by rw [gU,if_neg (by rw [h];simp)])
 have E7:=Hy bR
 have HNe:=Hy aH
 clear gU bR aH af hN
 go_enter func49,ntmps49
 go_wp2_with fail
 rw [br.o]
 refine vy.o.mono ?_
 rintro en w5 ⟨rfl,ai⟩
 have y0:=Ob HX.o.1 ai
 have y1:=Ob HX.o.2.1 ai
 have e8:=ai.size
 have E8:=HX.o.2.2.2
 have H5:=Hy (An y0 (An y1 (HX.o.2.2.1.trans (ai.mono HX.o.2.2.1.size))))
 clear ai s0 s1 d0 d1 y0 y1
 go_wp2
 go_loopw [6,7,9] (fun hv cl v wr=>∃ i:Nat,i<=n/\v=.int .i64 (i:Nat)/\wr.ownsRow w5.heap.size 9 1 hv i (sc (N.take i))/\Below w5.heap.size w5 wr/\zkq w A (N.take i) cl) (fun _ _ v _=>n - (intOf v).toNat)
 case atStart=>exact ⟨0,by omega,rfl,World.ownsRow_nil _ _ _ _,Br _,.inl ⟨rfl,rfl⟩⟩
 case round =>
  obtain ⟨i,hi,rfl,ab,hb,kX⟩:=hrel
  have cQ:=hb.size
  have x0:=Ob H5.o.1 hb
  have x1:=Ob H5.o.2.1 hb
  have aq:=H5.o.2.2.trans (hb.mono H5.o.2.2.size)
  obtain ⟨d0,d1⟩:=zf x1
  obtain ⟨ha,hc,rfl⟩:=zh ab
  by_cases aj:i<n
  ·have cW:(i:Int)<(n:Int):=by omega
   have cJ:i<A.length:=by rw [HL.o];exact aj
   have qq:i<N.length:=by rw [HN.o.1];exact cJ
   obtain ⟨g,o,vl,rfl,hg,aU,aP,dt⟩:=HM.o i cJ
   obtain ⟨va,vc,rfl,ju⟩:=dt
   have e0:=(aq.cell (p:=⟨g,_,none⟩) hg).trans aU
   have aY:=HV.o _ (List.getElem_mem cJ)
   have fv:=HN.o.2 i qq cJ
   have Jj:=Hy (An aP ju)
   obtain ⟨nm,aJ⟩:=Ex (A[i].1)
   rw [aJ] at e0 aY fv
   have cV:=Hy (fun w=>show Calls prog 82 #[.string ⟨nm.toArray⟩] w (zG (za nm) w) from zb4 ⟨nm.toArray⟩ aY.1 w)
   obtain ⟨X,hX⟩:=Ex (za nm)
   rw [hX] at cV fv
   have CM:=Hy (show sc (N.take (i+1))=sc (N.take i)++[.string ⟨X.toArray⟩] by have:=zqh (N:=N) i qq;rw [fv] at this;exact this)
   have Db:ixL (N.take (i+1)) zM=(ixL (N.take i) zM).or (if (X==zM)=true then some i else none):=by
    rw [List.take_succ_eq_append_getElem qq,zjO,fv,List.length_take,Nat.min_eq_left Om]
   have Nu:=Hy Db
   have gT:=Hy fv
   have HI:=Hy (An ab (An hb (An kX (An x1 aq))))
   clear ab hb kX x0 x1 aq aU aP ju aJ hX fv aY Db
   go_wp2_with fail
   refine (cV.o _).mono ?_
   rintro en w6 ⟨rfl,az⟩
   have fz:=az.size
   have HO6:=Hy (zu HI.o.1 az)
   have d9:=Hy (HI.o.2.1.trans (az.mono cQ))
   have E9:w5.heap.size<=w6.heap.size:=Nat.le_trans cQ fz
   clear az d0 d1 e0
   go_wp2_with (at_builtin;refine zaj rfl (.tmp 28) (.tmp 36) 47 9 rfl w5.heap.size 1 16 (.string ByteArray.empty) Tryz.scinfo9 underlying47 rfl De 1 [.string ⟨X.toArray⟩] rfl ?c0 _ i _ rfl _ rfl ?c3 HO6.o ?c1 ?c2 E9 ?_)
   case c0=>intro u hu;simp at hu;subst hu;rfl
   case c1=>unfold maxLen;omega
   case c2=>omega
   case c3=>first | rfl | simp
   intro v' w7 g1 g2
   obtain ⟨na,nc,rfl⟩:=zh g1
   have aR:=d9.o.trans g2
   have ft:=H5.o.2.2.trans (aR.mono H5.o.2.2.size)
   have x1:=Ob H5.o.2.1 aR
   obtain ⟨d0,d1⟩:=zf x1
   obtain ⟨g',o',vl',hJ,cO,Dc,Jk,Jl⟩:=HM.o i cJ
   injection hJ with hJ
   injection hJ with hge1 hge2
   subst hge1 hge2
   have e0:=(ft.cell (p:=⟨g,_,none⟩) hg).trans Dc
   obtain ⟨xz,rx⟩:=Ex (A[i].1)
   rw [rx] at e0
   have vz:=(HV.o _ (List.getElem_mem cJ)).1
   rw [rx] at vz
   have Nv:za xz=X:=by rw [<- rx,<- HN.o.2 i qq cJ];exact gT.o
   have Jm:=Hy (fun w=>show Calls prog 82 #[.string ⟨xz.toArray⟩] w (zG X w) from (by rw [<- Nv];exact zb4 ⟨xz.toArray⟩ vz w))
   have H7:=Hy (An (show w7.ownsRow w5.heap.size 9 1 (.slice na (i+1) nc) (i+1) (sc (N.take (i+1))) by rw [CM.o];exact g1) (An aR x1))
   have kn:=aR.size
   clear g1 g2 aR ft x1 Dc Jk Jl rx vz Nv
   go_wp2_with fail
   refine (Jm.o _).mono ?_
   rintro en w8 ⟨rfl,bz⟩
   have row8:=zu H7.o.1 bz
   have vA:=H7.o.2.1.trans (bz.mono kn)
   have fV:=H5.o.2.2.trans (vA.mono H5.o.2.2.size)
   have x1:=Ob H7.o.2.2 bz
   obtain ⟨d0,d1⟩:=zf x1
   have e1:=(fV.cell (p:=⟨g,_,none⟩) hg).trans Jj.o.1
   have H8:=Hy (An row8 vA)
   have Df:A[i]?.map (·.2)=some A[i].2:=by simp [cJ]
   have Nx:=Hy Df
   have rN:=Hy Jj.o.2
   obtain ⟨vs,Dg⟩:=Ex (A[i].2)
   rw [Dg] at e1 Nx rN
   obtain ⟨m,hm⟩:=Ex vs.length
   have dp:=Hy hm
   rw [hm] at e1
   clear bz row8 vA fV x1 e0 Df Dg hm Jj
   cases hq:(X==zM)
   ·have dG:(X==[111,98,106,101,99,116,99,108,97,115,115])=false:=hq
    have io:zkq w A (N.take (i+1)) u7:=by
     have dB:=Nu.o
     rw [hq] at dB
     simp at dB
     rcases HI.o.2.2.1 with ⟨h1,h2⟩ | ⟨own,ws,h1,h2⟩
     ·exact .inl ⟨by rw [dB,h1],h2⟩
     exact .inr ⟨own,ws,by rw [dB,h1],h2⟩
    have gM:=Hy io
    clear hq io e1
    exact zqu
   have dG:(X==[111,98,106,101,99,116,99,108,97,115,115])=true:=hq
   have sQ:ixL (N.take i) zM=none:=by
    cases hz:ixL (N.take i) zM with
    | none=>rfl
    | some j =>
     have hXo:X=zM:=by simpa using hq
     exact absurd E7.o (ze5 qq (by rw [gT.o,hXo]) hz)
   have io:zkq w A (N.take (i+1)) (.slice va m vc):=by
    have dB:=Nu.o
    rw [hq,sQ] at dB
    simp at dB
    have eK:=rN.o
    refine .inr ⟨i,vs,dB,Nx.o,va,vc,by rw [dp.o],?_⟩
    exact ⟨va,vc,by rw [dp.o],fun j hj=>eK j hj⟩
   have gM:=Hy io
   clear hq io sQ
   exact zqu
  obtain rfl:i=n:=by omega
  have wS:N.take i=N:=List.take_of_length_le (by rw [HN.o.1,HL.o];exact Nat.le_refl _)
  rw [wS] at ab kX
  rcases kX with ⟨dB,rfl⟩ | ⟨own,vs,dB,Dg,va,vc,gY,eK⟩
  ·have HS:=Hy (E6.o (zrt dB))
   have HB:=Hy aq
   clear ab hb aq x0 x1 dB wS
   go_wp2
   go_ret
   exact zaV (by rw [HS.o];rfl) HB.o
  subst gY
  have ib:own<A.length:=by have:=zg8 dB;rw [HN.o.1] at this;exact this
  have kY:A[own].2=vs:=by simpa [ib] using Dg
  have dt:vs.length≠0:=by rw [<- kY];exact HNe.o own ib
  have ff:=HV.o _ (List.getElem_mem ib)
  rw [kY] at ff
  have HVb:=Hy ff.2.2
  have vB:=ff.2.1
  have Jn:=Hy (fun j (hj:j<vs.length) (h:scC C vs[j]=none)=>(show S=65 by subst kY;exact E6.o (zA8 dB ib j hj h)))
  have Jo:=Hy (fun j (hj:j<vs.length) c (hc:scC C vs[j]=some c) q (hq:q<c.2.1.length) (hx:inL N c.2.1[q]=false)=>(show S=65 by subst kY;exact E6.o (zA7 dB ib j hj hc q hq hx)))
  have Dh:=Hy (fun p (hp:p<N.length) (h1:(N[p]==zM)=false) (h2:inL (alS (vs.filterMap (scC C))) N[p]=false)=>(show S=65 by subst kY;exact E6.o (zA9 dB ib p hp h1 h2)))
  have pD:=Hy (fun (h1:∀ j (hj:j<vs.length),∃ c,scC C vs[j]=some c/\∀ q (hq:q<c.2.1.length),inL N c.2.1[q]=true) (h2:∀ p (hp:p<N.length),(N[p]==zM || inL (alS (vs.filterMap (scC C))) N[p])=true)=>(show S=0 by subst kY;exact HSg.o (zBa dB ib h1 h2)))
  obtain ⟨m,hm⟩:=Ex vs.length
  have dp:=Hy hm
  rw [hm] at dt vB
  have lf:=zA eK aq
  rw [hm] at lf
  have kk:N.length=i:=by rw [HN.o.1,HL.o]
  have Ev:TxR wr (.slice ha i hc) N:=zaL (l:=N) (by rw [kk];exact ab)
  obtain ⟨W2,aL⟩:∃ W2,W2=wr:=⟨_,rfl⟩
  subst aL
  have Jp:=Hy (An lf Ev)
  have bw:=Hy (An aq x0)
  have hmi:((m:Int)==0)=false:=by rw [beq_eq_false_iff_ne];omega
  have bO:=zi x0
  have Cg:W2.heap.size<=W2.heap.size:=Nat.le_refl _
  have lE:=Hy kk
  rw [hm]
  clear ab hb aq x0 x1 dB wS Dg kY ff ib hm eK lf Ev kk
  go_wp2
  clear d0 d1
  go_loopw [8,10] (fun mv v wz=>∃ k:Nat,k<=m/\v=.int .i64 (k:Nat)/\(∃ ln,wz.ownsRow W2.heap.size 9 1 mv ln (sc (alS ((vs.take k).filterMap (scC C))))/\ln<=k*1000)/\Below W2.heap.size W2 wz/\∀ j (hj:j<vs.length),j<k->∃ c,scC C vs[j]=some c/\∀ q (hq:q<c.2.1.length),inL N c.2.1[q]=true) (fun _ v _=>m - (intOf v).toNat)
  case atStart=>exact ⟨0,by omega,rfl,⟨0,World.ownsRow_nil _ _ _ _,by omega⟩,Br _,fun j _ h=>by omega⟩
  case round =>
   obtain ⟨k,hk,rfl,⟨ln,qn,dV⟩,cL,dJ⟩:=hrel
   have Jq:=cL.size
   obtain ⟨ma,mc,rfl⟩:=zh qn
   by_cases cZ:k<m
   ·have bh:(k:Int)<(m:Int):=by omega
    have aO:k<vs.length:=by rw [dp.o];exact cZ
    obtain ⟨_,_,uY,bH⟩:=Jp.o.1
    injection uY with dl f7 ep
    subst dl ep
    obtain ⟨g,o,rfl,hg,aU⟩:=bH k aO
    clear f7 bH
    have e0:=(cL.cell (p:=⟨g,_,none⟩) hg).trans aU
    have zg:=Nat.lt_of_lt_of_le hg cL.size
    have x0:=zj bw.o.2 cL bO
    obtain ⟨b0,b1⟩:=zf x0
    have z0:=zi x0
    have ax:=bw.o.1.trans (cL.mono bw.o.1.size)
    have aY:=HVb.o _ (List.getElem_mem aO)
    have mj:=Hy (Jn.o k aO)
    have Ny:=Hy (Jo.o k aO)
    have xA:=Hy (fun c h=>zBb (C:=C) (vs:=vs) k aO (c:=c) h)
    have gT:=Hy (fun (hx:∃ c,scC C vs[k]=some c/\∀ q (hq:q<c.2.1.length),inL N c.2.1[q]=true) j (hj:j<vs.length) (h:j<k+1)=>(show ∃ c,scC C vs[j]=some c/\∀ q (hq:q<c.2.1.length),inL N c.2.1[q]=true by
     by_cases e:j=k
     ·subst e;exact hx
     exact dJ j hj Om))
    obtain ⟨nm,aJ⟩:=Ex (vs[k])
    rw [aJ] at e0 aY mj Ny gT xA
    have hT:=fun w' (co:Below wr.heap.size wr w')=>iJ.o w' (ax.trans (co.mono ax.size)) nm aY
    have Jr:=Hy (HCm.o nm)
    obtain ⟨tt,gJ⟩:=Ex (scC C nm)
    have HI:=Hy (An qn (An cL ax))
    rw [gJ] at hT
    clear qn cL dJ aU x0 ax aJ aY
    cases tt with
    | none =>
     have HT:=Hy (fun w' (co:Below wr.heap.size wr w')=>(hT w' co).mono (R':=fun en w''=>en=.returned (.tuple #[.agg #[.string ⟨#[]⟩,.slice none 0 0,.slice none 0 0],.bool false])/\Below w'.heap.size w' w'') (fun en w'' h=>by
      rcases h with ⟨_,h1,h2⟩ | ⟨c,hc,_⟩
      ·exact ⟨h1,h2⟩
      cases hc))
     have HS:=Hy (mj.o gJ)
     clear hT gJ
     have kh:∀ ob,(wr.drew.alloc ob).cell? ⟨w.heap.size,0,none⟩=some (tv):=fun ob=>(((Below.refl wr.drew.heap.size wr.drew).alloc Lr ob).cell (p:=⟨w.heap.size,_,none⟩) z0).trans b0
     have ki:∀ ob,(wr.drew.alloc ob).cell? ⟨w.heap.size,1,none⟩=some (cv):=fun ob=>(((Below.refl wr.drew.heap.size wr.drew).alloc Lr ob).cell (p:=⟨w.heap.size,_,none⟩) z0).trans b1
     have kj:∀ ob,(wr.drew.alloc ob).cell? ⟨g,o+k,none⟩=some (.string ⟨nm.toArray⟩):=fun ob=>(((Below.refl wr.drew.heap.size wr.drew).alloc Lr ob).cell (p:=⟨g,_,none⟩) zg).trans e0
     have ng:g≠wr.heap.size:=Nat.ne_of_lt zg
     have nwheapsize:w.heap.size≠wr.heap.size:=Nat.ne_of_lt z0
     go_wp2_with fail
     go_region_held3 (fun w'=>w'.cell? ⟨w.heap.size,0,none⟩=some (tv)/\w'.cell? ⟨w.heap.size,1,none⟩=some (cv)/\w'.cell? ⟨g,o+k,none⟩=some (.string ⟨nm.toArray⟩)) (first | exact ⟨aE,au,cg⟩ | exact ⟨b0,b1,e0⟩ | exact ⟨(jP _),(jQ _),(kW _)⟩ | exact ⟨(kh _),(ki _),(kj _)⟩ | exact ⟨((zY nwheapsize _ _ _ _ _ _ _).trans aE),((zY nwheapsize _ _ _ _ _ _ _).trans au),((zY ng _ _ _ _ _ _ _).trans cg)⟩ | go_keep)
      (first | (go_at_call 83;(with_reducible refine (HT.o _ (by first | exact (Br wr).drew | exact ((Br wr).drew.alloc Lr _) | exact ((Br wr).alloc Lr _).drew)).mono ?_);rintro en w5 ⟨rfl,ai⟩;have aQ:Below wr.heap.size wr w5:=(by first | exact (Br wr).drew.trans ai | exact ((Br wr).drew.alloc Lr _).trans (ai.mono Sm) | exact (((Br wr).alloc Lr _).drew).trans (ai.mono (by show _<=(wr.alloc _).heap.size;simp)));have aE:=(aQ.cell (p:=⟨w.heap.size,_,none⟩) z0).trans b0;have jP:∀ ob,(w5.alloc ob).cell? ⟨w.heap.size,0,none⟩=some (tv):=(fun ob=>(((Below.refl w5.heap.size w5).alloc Lr ob).cell (p:=⟨w.heap.size,_,none⟩) (Nat.lt_of_lt_of_le z0 aQ.size)).trans aE);have au:=(aQ.cell (p:=⟨w.heap.size,_,none⟩) z0).trans b1;have jQ:∀ ob,(w5.alloc ob).cell? ⟨w.heap.size,1,none⟩=some (cv):=(fun ob=>(((Below.refl w5.heap.size w5).alloc Lr ob).cell (p:=⟨w.heap.size,_,none⟩) (Nat.lt_of_lt_of_le z0 aQ.size)).trans au);have cg:=(aQ.cell (p:=⟨g,_,none⟩) zg).trans e0;have kW:∀ ob,(w5.alloc ob).cell? ⟨g,o+k,none⟩=some (.string ⟨nm.toArray⟩):=(fun ob=>(((Below.refl w5.heap.size w5).alloc Lr ob).cell (p:=⟨g,_,none⟩) (Nat.lt_of_lt_of_le zg aQ.size)).trans cg);have c7:=Hy aQ;try (have aw:w5.heap[wr.heap.size]?=some (.cells #[.string ⟨#[]⟩,.slice none 0 0,.slice none 0 0] 72 (0,0)):=(by first | exact zj (heap_alloc_new wr.drew _) ai Sm | exact zj (w:=(wr.alloc _).drew) (heap_alloc_new wr _) ai (by show _<(wr.alloc _).heap.size;simp));have b0_:=zq aw 0 _ rfl;have f0_:=zc aw 0;have b1_:=zq aw 1 _ rfl;have f1_:=zc aw 1;have b2_:=zq aw 2 _ rfl;have f2_:=zc aw 2;have bY:=Hy aw;clear aw);clear ai aQ))
     all_goals
      first
       | (obtain ⟨W7,aT⟩:=Ex (((w5.setCell ⟨wr.heap.size,0,none⟩ (.string ⟨#[]⟩)).setCell ⟨wr.heap.size,1,none⟩ (.slice none 0 0)).setCell ⟨wr.heap.size,2,none⟩ (.slice none 0 0));have aD:W7.heap[wr.heap.size]?=some (.cells #[.string ⟨#[]⟩,.slice none 0 0,.slice none 0 0] 72 (0,0)):=(by rw [<- aT];exact zbR bY.o _ _ _);have aR:Below wr.heap.size wr W7:=(by rw [<- aT];exact zbV c7.o Lr _ _ _);rw [aT];obtain ⟨bx,dC⟩:=Ex wr.heap.size;have mT:=Hy (show wr.heap.size<=bx by have:=c7.o.size;omega);rw [dC] at aD ⊢;have H7:=Hy (An aD aR);clear aD aR aT dC)
       | (obtain ⟨W7,aT⟩:=Ex (w5.alloc (.cells #[.string ⟨#[]⟩,.slice none 0 0,.slice none 0 0] 72));have aD:W7.heap[w5.heap.size]?=some (.cells #[.string ⟨#[]⟩,.slice none 0 0,.slice none 0 0] 72 (0,0)):=(by rw [<- aT];exact heap_alloc_new w5 _);have aR:Below wr.heap.size wr W7:=(by rw [<- aT];exact c7.o.alloc c7.o.size _);rw [aT];obtain ⟨bx,dC⟩:=Ex w5.heap.size;have mT:=Hy (show wr.heap.size<=bx by have:=c7.o.size;omega);rw [dC] at aD ⊢;have H7:=Hy (An aD aR);clear aD aR aT dC)
     all_goals
      try clear aE au cg
      try clear jP jQ kW
      try clear kh ki kj
      try clear b0_ f0_
      try clear b1_ f1_
      try clear b2_ f2_
      try clear bY
      try clear c7
     all_goals
      have HB:=Hy (HI.o.2.2.trans (H7.o.2.mono HI.o.2.2.size))
      try clear b0 b1 e0
      go_wp2
      go_ret
      exact zaV (by rw [HS.o];rfl) HB.o
    | some cc =>
     obtain ⟨cn,Mu,Ma⟩:=cc
     have gS:=Jr.o _ gJ
     have Js:=Hy (Ny.o _ gJ)
     have Jt:=Hy (xA.o _ gJ)
     have Ju:=Hy (fun (hx:∀ q (hq:q<Mu.length),inL N Mu[q]=true)=>gT.o ⟨_,gJ,hx⟩)
     obtain ⟨mn,xC⟩:=Ex Mu.length
     obtain ⟨yn,xD⟩:=Ex Ma.length
     have Nz:∀ w' (co:Below wr.heap.size wr w'),Calls prog 83 #[.agg #[tv,cv],.string ⟨nm.toArray⟩] w' (fun en w''=>∃ am cm ay cy,en=.returned (.tuple #[.agg #[.string ⟨cn.toArray⟩,.slice am mn cm,.slice ay yn cy],.bool true])/\(TxR w'' (.slice am mn cm) Mu/\TxR w'' (.slice ay yn cy) Ma/\zam (.slice am mn cm)/\zam (.slice ay yn cy)/\(∀ g o,am=some ⟨g,o,none⟩->w'.heap.size<=g)/\∀ g o,ay=some ⟨g,o,none⟩->w'.heap.size<=g)/\Below w'.heap.size w' w''):=fun w' co=>(hT w' co).mono (fun en w'' h=>by
      rcases h with ⟨h,_⟩ | ⟨c,hc,am,cm,ay,cy,h1,h2,h3⟩
      ·cases h
      injection hc with hc
      subst hc
      simp only [xC,xD] at h1 h2
      exact ⟨am,cm,ay,cy,h1,h2,h3⟩)
     have HT:=Hy Nz
     have hcm1:mn<=1000:=by simp only [xC,xD] at gS;omega
     have hcm2:yn<=1000:=by simp only [xC,xD] at gS;omega
     have hcm3:mn+yn<=1000:=by simp only [xC,xD] at gS;omega
     have Fa:=Hy (An xC xD)
     clear hT Nz gJ xC xD gS
     have kh:∀ ob,(wr.drew.alloc ob).cell? ⟨w.heap.size,0,none⟩=some (tv):=fun ob=>(((Below.refl wr.drew.heap.size wr.drew).alloc Lr ob).cell (p:=⟨w.heap.size,_,none⟩) z0).trans b0
     have ki:∀ ob,(wr.drew.alloc ob).cell? ⟨w.heap.size,1,none⟩=some (cv):=fun ob=>(((Below.refl wr.drew.heap.size wr.drew).alloc Lr ob).cell (p:=⟨w.heap.size,_,none⟩) z0).trans b1
     have kj:∀ ob,(wr.drew.alloc ob).cell? ⟨g,o+k,none⟩=some (.string ⟨nm.toArray⟩):=fun ob=>(((Below.refl wr.drew.heap.size wr.drew).alloc Lr ob).cell (p:=⟨g,_,none⟩) zg).trans e0
     have ng:g≠wr.heap.size:=Nat.ne_of_lt zg
     have nwheapsize:w.heap.size≠wr.heap.size:=Nat.ne_of_lt z0
     go_wp2_with fail
     go_region_held3 (fun w'=>w'.cell? ⟨w.heap.size,0,none⟩=some (tv)/\w'.cell? ⟨w.heap.size,1,none⟩=some (cv)/\w'.cell? ⟨g,o+k,none⟩=some (.string ⟨nm.toArray⟩)) (first | exact ⟨aE,au,cg⟩ | exact ⟨b0,b1,e0⟩ | exact ⟨(jP _),(jQ _),(kW _)⟩ | exact ⟨(kh _),(ki _),(kj _)⟩ | exact ⟨((zY nwheapsize _ _ _ _ _ _ _).trans aE),((zY nwheapsize _ _ _ _ _ _ _).trans au),((zY ng _ _ _ _ _ _ _).trans cg)⟩ | go_keep)
      (first | (go_at_call 83;(with_reducible refine (HT.o _ (by first | exact (Br wr).drew | exact ((Br wr).drew.alloc Lr _) | exact ((Br wr).alloc Lr _).drew)).mono ?_);rintro en w5 ⟨am,cm,ay,cy,rfl,fm,ai⟩;have aQ:Below wr.heap.size wr w5:=(by first | exact (Br wr).drew.trans ai | exact ((Br wr).drew.alloc Lr _).trans (ai.mono Sm) | exact (((Br wr).alloc Lr _).drew).trans (ai.mono (by show _<=(wr.alloc _).heap.size;simp)));have aE:=(aQ.cell (p:=⟨w.heap.size,_,none⟩) z0).trans b0;have jP:∀ ob,(w5.alloc ob).cell? ⟨w.heap.size,0,none⟩=some (tv):=(fun ob=>(((Below.refl w5.heap.size w5).alloc Lr ob).cell (p:=⟨w.heap.size,_,none⟩) (Nat.lt_of_lt_of_le z0 aQ.size)).trans aE);have au:=(aQ.cell (p:=⟨w.heap.size,_,none⟩) z0).trans b1;have jQ:∀ ob,(w5.alloc ob).cell? ⟨w.heap.size,1,none⟩=some (cv):=(fun ob=>(((Below.refl w5.heap.size w5).alloc Lr ob).cell (p:=⟨w.heap.size,_,none⟩) (Nat.lt_of_lt_of_le z0 aQ.size)).trans au);have cg:=(aQ.cell (p:=⟨g,_,none⟩) zg).trans e0;have kW:∀ ob,(w5.alloc ob).cell? ⟨g,o+k,none⟩=some (.string ⟨nm.toArray⟩):=(fun ob=>(((Below.refl w5.heap.size w5).alloc Lr ob).cell (p:=⟨g,_,none⟩) (Nat.lt_of_lt_of_le zg aQ.size)).trans cg);have c7:=Hy aQ;have lF:=Hy fm;clear fm;try (have aw:w5.heap[wr.heap.size]?=some (.cells #[.string ⟨#[]⟩,.slice none 0 0,.slice none 0 0] 72 (0,0)):=(by first | exact zj (heap_alloc_new wr.drew _) ai Sm | exact zj (w:=(wr.alloc _).drew) (heap_alloc_new wr _) ai (by show _<(wr.alloc _).heap.size;simp));have b0_:=zq aw 0 _ rfl;have f0_:=zc aw 0;have b1_:=zq aw 1 _ rfl;have f1_:=zc aw 1;have b2_:=zq aw 2 _ rfl;have f2_:=zc aw 2;have bY:=Hy aw;clear aw);clear ai aQ))
     all_goals
      first
       | (obtain ⟨W7,aT⟩:=Ex (((w5.setCell ⟨wr.heap.size,0,none⟩ (.string ⟨cn.toArray⟩)).setCell ⟨wr.heap.size,1,none⟩ (.slice am mn cm)).setCell ⟨wr.heap.size,2,none⟩ (.slice ay yn cy));have aD:W7.heap[wr.heap.size]?=some (.cells #[.string ⟨cn.toArray⟩,.slice am mn cm,.slice ay yn cy] 72 (0,0)):=(by rw [<- aT];exact zbR bY.o _ _ _);have aR:Below wr.heap.size wr W7:=(by rw [<- aT];exact zbV c7.o Lr _ _ _);rw [aT];have Fb:=Hy (show TxR W7 (.slice am mn cm) Mu/\TxR W7 (.slice ay yn cy) Ma from (by rw [<- aT];exact ⟨zgJ lF.o.1 (fun g o e=>Nat.ne_of_gt (Nat.lt_of_lt_of_le (by show wr.heap.size<_;simp) (lF.o.2.2.2.2.1 g o e))) _ _ _ _ _ _,zgJ lF.o.2.1 (fun g o e=>Nat.ne_of_gt (Nat.lt_of_lt_of_le (by show wr.heap.size<_;simp) (lF.o.2.2.2.2.2 g o e))) _ _ _ _ _ _⟩));obtain ⟨bx,dC⟩:=Ex wr.heap.size;have mT:=Hy (show wr.heap.size<=bx by have:=c7.o.size;omega);rw [dC] at aD ⊢;have H7:=Hy (An aD aR);clear aD aR aT dC)
       | (obtain ⟨W7,aT⟩:=Ex (w5.alloc (.cells #[.string ⟨cn.toArray⟩,.slice am mn cm,.slice ay yn cy] 72));have aD:W7.heap[w5.heap.size]?=some (.cells #[.string ⟨cn.toArray⟩,.slice am mn cm,.slice ay yn cy] 72 (0,0)):=(by rw [<- aT];exact heap_alloc_new w5 _);have aR:Below wr.heap.size wr W7:=(by rw [<- aT];exact c7.o.alloc c7.o.size _);rw [aT];have Fb:=Hy (show TxR W7 (.slice am mn cm) Mu/\TxR W7 (.slice ay yn cy) Ma from (by rw [<- aT];exact ⟨zA lF.o.1 ((Br w5).alloc Lr _),zA lF.o.2.1 ((Br w5).alloc Lr _)⟩));obtain ⟨bx,dC⟩:=Ex w5.heap.size;have mT:=Hy (show wr.heap.size<=bx by have:=c7.o.size;omega);rw [dC] at aD ⊢;have H7:=Hy (An aD aR);clear aD aR aT dC)
     all_goals
      try clear aE au cg
      try clear jP jQ kW
      try clear kh ki kj
      try clear b0_ f0_
      try clear b1_ f1_
      try clear b2_ f2_
      try clear bY
      try clear c7
     all_goals
      obtain ⟨c0,c1,c2⟩:=ze H7.o.1
      have aR:=HI.o.2.1.trans (H7.o.2.mono Jq)
      have j7:=Hy aR
      have kn:=aR.size
      have wN:=zi H7.o.1
      have fo:∀ q,(Value.slice ma ln mc).ownBlock=some q->q<wr.heap.size:=fun q hq=>(HI.o.1.lt q hq).2
      have Jv:=Hy (An fo (show wr.heap.size<=W7.heap.size from H7.o.2.size))
      have HR7:=Hy (zu HI.o.1 H7.o.2)
      have Jw:Hd (zam (.slice am mn cm)/\zam (.slice ay yn cy)/\∀ g o,ay=some ⟨g,o,none⟩->wr.heap.size<=g):=Hy ⟨lF.o.2.2.1,lF.o.2.2.2.1,fun g o e=>by
       have:=lF.o.2.2.2.2.2 g o e
       first
        | exact this
        | exact Nat.le_trans (by show wr.heap.size<=(wr.alloc _).heap.size;simp) this⟩
      clear aR fo
      try clear b0 b1 e0
      go_wp2
      clear c0 c1 c2
      go_loopw [13] (fun v wy=>∃ q:Nat,q<=mn/\v=.int .i64 (q:Nat)/\Below W7.heap.size W7 wy/\∀ p (hp:p<Mu.length),p<q->inL N Mu[p]=true) (fun v _=>mn - (intOf v).toNat)
      case atStart=>exact ⟨0,by omega,rfl,Br _,fun p _ h=>by omega⟩
      case round =>
       obtain ⟨q,hq,rfl,dm,mC⟩:=hrel
       obtain ⟨c0,c1,c2⟩:=ze (zj H7.o.1 dm wN)
       have jv:=j7.o.trans (dm.mono kn)
       have hsy:=dm.size
       by_cases kz:q<mn
       ·have hql:(q:Int)<(mn:Int):=by omega
        have NA:q<Mu.length:=by rw [Fa.o.1];exact kz
        obtain ⟨_,_,uY,bH⟩:=Fb.o.1
        injection uY with dl f7 ep
        subst dl ep
        obtain ⟨g3,o3,rfl,fq,lD⟩:=bH q NA
        clear f7 bH
        have v0:=(dm.cell (p:=⟨g3,_,none⟩) fq).trans lD
        have NB:=Hy (Js.o q NA)
        have Fc:=Hy (fun (hx:inL N Mu[q]=true) p (hp:p<Mu.length) (h:p<q+1)=>(show inL N Mu[p]=true by
         by_cases e:p=q
         ·subst e;exact hx
         exact mC p hp Om))
        obtain ⟨x,hx⟩:=Ex (Mu[q])
        have Jx:=NB.o
        rw [hx] at v0 Jx
        have sP:=Hy hx
        have Jy:=Hy Jx
        have cz:=zkh N x (.slice ha i hc) wr (zA Jp.o.2 jv) (by rw [lE.o];omega)
        have lG:=Hy (An dm (HI.o.2.2.trans ((H7.o.2.trans (dm.mono Jv.o.2)).mono HI.o.2.2.size)))
        clear dm jv mC lD hx Jx NB
        cases hb:inL N x
        ·rw [hb] at cz
         have pE:=Hy cz
         have HS:=Hy (Jy.o hb)
         clear cz hb
         go_wp2_with fail
         refine pE.o.mono ?_
         rintro en w9 ⟨rfl,hw⟩
         obtain rfl:=hw.symm
         clear hw
         go_wp2
         go_ret
         exact zaV (by rw [HS.o];rfl) lG.o.2
        rw [hb] at cz
        have pE:=Hy cz
        have xy:=Hy (Fc.o (by rw [sP.o];exact hb))
        clear cz hb
        go_wp2_with fail
        refine pE.o.mono ?_
        rintro en w9 ⟨rfl,hw⟩
        obtain rfl:=hw.symm
        clear hw
        go_wp2
        exact ⟨⟨q+1,by omega,by go_num,lG.o.1,xy.o⟩,by simp [intOf];omega⟩
       obtain rfl:q=mn:=by omega
       have xy:=Hy (Ju.o (fun p hp=>mC p hp (by rw [<- Fa.o.1];exact hp)))
       have Jz:=zec (zA Fb.o.1 dm) Jw.o.1
       rw [Fa.o.1] at Jz
       have NC:=zA Fb.o.2 dm
       have ND:=Hy (zu HR7.o dm)
       have p9:=Hy (An Jz NC)
       have iK:W2.heap.size<=wr.heap.size:=Nat.le_trans kn hsy
       have lG:=Hy jv
       have Di:=zj H7.o.1 dm wN
       have JA:=Hy Di
       clear dm jv mC Jz NC Di
       go_wp2_with (at_builtin;refine zaf rfl (.tmp 87) (.tmp 89) 47 9 rfl W2.heap.size 1 16 (.string ByteArray.empty) Tryz.scinfo9 underlying47 rfl De (.slice ma ln mc) ln (sc (alS ((vs.take k).filterMap (scC C)))) rfl ND.o _ q (sc Mu) rfl p9.o.1 (zcD _) Mx Om iK ?_)
       intro v1 w9 g1 g2 g3
       obtain ⟨a1,z1,rfl⟩:=zh g1
       have bv:=zbm lG.o iK ND.o g2
       have aH:∀ j,some j=(Value.slice ma ln mc).ownBlock->j≠bx:=fun j hj e=>by
        have h1:=Jv.o.1 j hj.symm
        have h2:=mT.o
        omega
       have sR:=zV JA.o g2 (fun e=>aH bx e rfl)
       obtain ⟨c0,c1,c2⟩:=ze sR
       have NE:TxR w9 (.slice ay yn cy) Ma:=zhY p9.o.2 g2 (fun g o n c e hj=>by
        injection e with e1 e2 e3
        have h1:=Jv.o.1 g hj.symm
        have h2:=Jw.o.2.2 g o e1
        omega)
       have JB:=zec NE Jw.o.2.1
       rw [Fa.o.2] at JB
       have ry:=Hy (An g1 (An bv JB))
       have Dj:=bv.size
       clear g1 g2 g3 bv aH sR NE JB
       go_wp2_with (at_builtin;refine zaf rfl (.tmp 91) (.tmp 93) 47 9 rfl W2.heap.size 1 16 (.string ByteArray.empty) Tryz.scinfo9 underlying47 rfl De (.slice a1 (ln+q) z1) (ln+q) (sc (alS ((vs.take k).filterMap (scC C)))++sc Mu) rfl ry.o.1 _ yn (sc Ma) rfl ry.o.2.2 (zcD _) Mx Om Dj ?_)
       intro v2 fG g1 g2 g3
       obtain ⟨a2,z2,rfl⟩:=zh g1
       have aZ:=zbm ry.o.2.1 Dj ry.o.1 g2
       have HG:=Hy (An (show fG.ownsRow W2.heap.size 9 1 (.slice a2 (ln+q+yn) z2) (ln+q+yn) (sc (alS ((vs.take (k+1)).filterMap (scC C)))) by
        rw [Jt.o,zfz,zfz]
        simpa using g1) aZ)
       clear g1 g2 g3 aZ c0 c1 c2
       go_wp2
       exact ⟨⟨k+1,by omega,by go_num,⟨_,HG.o.1,by omega⟩,HG.o.2,xy.o⟩,by simp [intOf];omega⟩
   obtain rfl:k=m:=by omega
   have sw:vs.take k=vs:=List.take_of_length_le (by rw [dp.o];exact Nat.le_refl _)
   rw [sw] at qn
   obtain ⟨M,hM⟩:=Ex (alS (vs.filterMap (scC C)))
   rw [hM] at Dh pD qn
   have JC:M.length=ln:=by have:=qn.1;simpa [sc] using this
   have pB:TxR wr (.slice ma ln mc) M:=zaL (l:=M) (by rw [JC];exact qn)
   have HYs:=Hy (pD.o (fun j hj=>dJ j hj (by rw [<- dp.o];exact hj)))
   obtain ⟨W3,cU⟩:∃ W3,W3=wr:=⟨_,rfl⟩
   subst cU
   have rr:=Hy (An pB (An (zA Jp.o.2 cL) (An JC (bw.o.1.trans (cL.mono bw.o.1.size)))))
   have Ik:ln<=1000000:=by omega
   clear qn cL dJ sw hM JC pB
   go_wp2
   go_loopw [14] (fun v wz=>∃ p:Nat,p<=i/\v=.int .i64 (p:Nat)/\Below W3.heap.size W3 wz/\∀ q (hq:q<N.length),q<p->(N[q]==zM || inL M N[q])=true) (fun v _=>i - (intOf v).toNat)
   case atStart=>exact ⟨0,by omega,rfl,Br _,fun q _ h=>by omega⟩
   case round =>
    obtain ⟨p,hp,rfl,cL,dJ⟩:=hrel
    by_cases hlp:p<i
    ·have dN:(p:Int)<(i:Int):=by omega
     have NF:p<N.length:=by rw [lE.o];exact hlp
     obtain ⟨_,_,uY,bH⟩:=rr.o.2.1
     injection uY with dl f7 ep
     subst dl ep
     obtain ⟨g3,o3,rfl,fq,lD⟩:=bH p NF
     clear f7 bH
     have v0:=(cL.cell (p:=⟨g3,_,none⟩) fq).trans lD
     have NG:=Hy (Dh.o p NF)
     have Fc:=Hy (fun (hx:(N[p]==zM || inL M N[p])=true) q (hq:q<N.length) (h:q<p+1)=>(show (N[q]==zM || inL M N[q])=true by
      by_cases e:q=p
      ·subst e;exact hx
      exact dJ q hq Om))
     obtain ⟨x,hx⟩:=Ex (N[p])
     have JD:=NG.o
     rw [hx] at v0 JD
     have sP:=Hy hx
     have JE:=Hy JD
     have cz:=zkh M x (.slice ma ln mc) wr (zA rr.o.1 cL) (by rw [rr.o.2.2.1];omega)
     have n8:=Hy (An cL (rr.o.2.2.2.trans (cL.mono rr.o.2.2.2.size)))
     clear cL dJ lD hx JD NG
     cases au:(x==zM)
     ·have dG:(x==[111,98,106,101,99,116,99,108,97,115,115])=false:=au
      cases ak:inL M x
      ·rw [ak] at cz
       have pE:=Hy cz
       have HS:=Hy (JE.o au ak)
       clear cz au ak
       go_wp2_with fail
       refine pE.o.mono ?_
       rintro en w9 ⟨rfl,hw⟩
       obtain rfl:=hw.symm
       clear hw
       go_wp2
       go_ret
       exact zaV (by rw [HS.o];rfl) n8.o.2
      rw [ak] at cz
      have pE:=Hy cz
      have xy:=Hy (Fc.o (by rw [sP.o,ak];simp))
      clear cz au ak
      go_wp2_with fail
      refine pE.o.mono ?_
      rintro en w9 ⟨rfl,hw⟩
      obtain rfl:=hw.symm
      clear hw
      exact zqv
     have dG:(x==[111,98,106,101,99,116,99,108,97,115,115])=true:=au
     have xy:=Hy (Fc.o (by rw [sP.o,au];rfl))
     clear cz au
     exact zqv
    obtain rfl:p=i:=by omega
    have HS:=Hy (HYs.o (fun q hq=>dJ q hq (by rw [<- lE.o];exact hq)))
    have HB:=Hy (rr.o.2.2.2.trans (cL.mono rr.o.2.2.2.size))
    clear cL dJ
    go_wp2
    go_ret
    exact zaV (by rw [HS.o];rfl) HB.o
end Go.Proofs.YtijglbolppkefaaGreatDoor
