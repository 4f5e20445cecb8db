/- Is something there twice, and is. -/
import Derived.Test.YtijglbolppkefaaGreatDoorMDqJ
import Derived.Test.YtijglbolppkefaaGreatDoorScAD
import Derived.Test.YtijglbolppkefaaGreatDoorRuK
set_option linter.unusedVariables false
set_option linter.unusedSimpArgs false
set_option maxHeartbeats 25600000
set_option maxRecDepth 100000
namespace Go.Proofs.YtijglbolppkefaaGreatDoor
open Go.Proofs.Tryz
open Go Go.RowKit Go.Proofs.BerK Go.Proofs.MemK Go.Proofs.UtfK
variable {t : Ty} {a : Atr} {TL : List Ty} {A : List Atr}
theorem zhO {w W1:World} {a b:Array Value} {t u:TypeId} (h:(w.alloc (.cells a t)).alloc (.cells b u)=W1):W1.heap[w.heap.size]?=some (.cells a t (0,0))/\W1.heap[w.heap.size+1]?=some (.cells b u (0,0))/\Below w.heap.size w W1/\W1.heap.size=w.heap.size+2:=by
 subst h
 refine ⟨za0 (heap_alloc_new w _) _,?_,((Br w).alloc Lr _).alloc Sm _,by simp⟩
 have:=heap_alloc_new (w.alloc (.cells a t)) (.cells b u)
 rw [World.size_alloc] at this
 exact this
theorem zhP (t:Ty) (a:Atr) (i:Nat) (h:i<a.2.length):(nmV t a)[i]'(by simpa [nmV] using h)=(ruN t.2.1 a.2[i]).1:=by simp [nmV]
theorem zBd (p:Nat) (hp:p<a.2.length) (q:Nat) (hq:q<p) (h:((ruN t.2.1 (a.2[q]'Om)).1==(ruN t.2.1 a.2[p]).1)=true):zan (nmV t a)=true:=by
 refine zrj (fun hn=>?_)
 have:=(List.pairwise_iff_getElem.1 hn) q p (by simp [nmV];omega) (by simpa [nmV] using hp) hq
 rw [zhP t a q Om,zhP t a p hp] at this
 exact this (by simpa using h)
theorem zBe (h:∀ p (hp:p<a.2.length) q (hq:q<p),((ruN t.2.1 (a.2[q]'Om)).1==(ruN t.2.1 a.2[p]).1)=false):zan (nmV t a)=false:=by
 refine zrk (List.pairwise_iff_getElem.2 (fun q p h1 h2 hq=>?_))
 have hp:p<a.2.length:=by simpa [nmV] using h2
 rw [zhP t a q Om,zhP t a p hp]
 simpa using h p hp q hq
theorem zqA (h:¬ (TL.map (·.1)).Nodup):onS TL A=20:=by unfold onS;rw [if_pos h]
theorem zBf (i:Nat) (h1:i<TL.length) (h2:i<A.length) (h:zan (nmV TL[i] A[i])=true):onS TL A=20:=by
 have hx:(nmG TL A).any zan=true:=by
  rw [List.any_eq_true]
  exact ⟨_,List.mem_iff_getElem.2 ⟨i,by simp [nmG];omega,rfl⟩,by simpa [nmG] using h⟩
 unfold onS
 rw [hx]
 by_cases hn:¬ (TL.map (·.1)).Nodup
 ·rw [if_pos hn]
 rw [if_neg hn];rfl
theorem zBg (hn:(TL.map (·.1)).Nodup) (h:∀ i (h1:i<TL.length) (h2:i<A.length),zan (nmV TL[i] A[i])=false):onS TL A=if tmB TL (nmG TL A)=true then 19 else 0:=by
 have hx:(nmG TL A).any zan=false:=by
  rw [List.any_eq_false]
  intro x hx
  obtain ⟨i,hi,rfl⟩:=List.getElem_of_mem hx
  have:=h i (by simp [nmG] at hi;omega) (by simp [nmG] at hi;omega)
  simpa [nmG] using this
 unfold onS
 rw [if_neg (by simpa using hn),hx];rfl
theorem zBh (T:List Ty) (A:List Atr) (tv cv av:Value) (dn:ByteArray) (w:World) (h:zL w tv T) (hA:zaB w av A) (jU:T.length<=1000000) (dL:∀ t∈T,t.1.length<=140737488355328) (hl:A.length<=1000000)
  (hv:∀ a∈A,a.1.length<=140737488355328/\a.2.length<=1000000) (af:zaC T A=true) (aS:zbM (A.map (tyG T)) A=true) :
  Calls prog 119 #[.agg #[tv,cv],.agg #[.string dn,av]] w (ScI (onS (A.map (tyG T)) A:Nat) w):=by
 have fF:=Hy (fun w' (hb:Below w.heap.size w w') s (hs:s.length<=140737488355328)=>zkk T tv cv s w' (zbc h hb) jU dL hs)
 obtain ⟨a,c,rfl,ae⟩:=hA
 have HM:=Hy ae
 have HV:=Hy hv
 have NH:=Hy (show ∀ i (hi:i<A.length),scT T A[i].1=some (tyG T A[i]) by
  intro i hi
  have:=List.all_eq_true.1 af _ (List.getElem_mem hi)
  obtain ⟨t,ht⟩:=Option.isSome_iff_exists.1 this
  simp [tyG,ht])
 have HOk:=Hy (show ∀ i (hi:i<A.length) j (hj:j<A[i].2.length),(ruN (tyG T A[i]).2.1 A[i].2[j]).2=true by
  intro i hi j hj
  cases hq:(ruN (tyG T A[i]).2.1 A[i].2[j]).2
  ·have:=zkE (TL:=A.map (tyG T)) (A:=A) i (by simpa using hi) hi j hj (by simpa using hq)
   rw [this] at aS;cases aS
  rfl)
 obtain ⟨TL,iP⟩:=Ex (A.map (tyG T))
 have mV:=Hy (show TL.length=A.length/\∀ i (h1:i<TL.length) (h2:i<A.length),TL[i]=tyG T A[i] by subst iP;simp)
 rw [iP]
 obtain ⟨NL,uL⟩:=Ex (TL.map (·.1))
 have JF:=Hy (show NL.length=A.length/\∀ i (h1:i<NL.length) (h2:i<A.length),NL[i]=(tyG T A[i]).1 by subst uL iP;simp)
 have xE:=Hy (show ¬ NL.Nodup->onS TL A=20 from fun h=>zqA (by rw [uL];exact h))
 have gG:=Hy (fun i h1 h2 h=>zBf (TL:=TL) (A:=A) i h1 h2 h)
 have Dl:=Hy (show NL.Nodup->_->_ from fun h=>zBg (TL:=TL) (A:=A) (by rw [uL];exact h))
 have sN:=Hy (fun i (h1:i<TL.length) (h2:i<A.length) (h:(TL[i].2.2 && decide (1<A[i].2.length))=true)=>(show tmB TL (nmG TL A)=true from zrl i h1 (by simp [nmG];omega) (by simpa [nmG,nmV] using h)))
 have HTn:=Hy (fun (h:∀ i (h1:i<TL.length) (h2:i<A.length),(TL[i].2.2 && decide (1<A[i].2.length))=false)=>(show tmB TL (nmG TL A)=false from zrm (fun i h1 h2=>by have:=h i h1 (by simp [nmG] at h2;omega);simpa [nmG,nmV] using this)))
 obtain ⟨R,hR⟩:=Ex (onS TL A)
 rw [hR] at xE gG Dl ⊢
 obtain ⟨n,hn⟩:=Ex A.length
 have HL:=Hy hn
 rw [hn] at hl ⊢
 obtain ⟨W1,aB⟩:=Ex ((w.alloc (.cells #[tv,cv] 31)).alloc (.cells #[.string dn,.slice a n c] 39))
 have HX:=Hy (zhO aB)
 have br:=Hy aB
 clear ae hv af aS iP uL hR hn aB h dL
 go_enter func119,ntmps119
 go_wp2
 rw [br.o]
 go_loopw [5,6] (fun sv v wr=>∃ i:Nat,i<=n/\v=.int .i64 (i:Nat)/\wr.ownsRow (w.heap.size+2) 9 1 sv i (sc (NL.take i))/\Below (w.heap.size+2) W1 wr/\(NL.take i).Nodup/\∀ j (h1:j<TL.length) (h2:j<A.length),j<i->zan (nmV TL[j] A[j])=false) (fun _ v _=>n - (intOf v).toNat)
 case atStart=>exact ⟨0,by omega,rfl,World.ownsRow_nil _ _ _ _,Br _,by simp,fun j _ _ h=>by omega⟩
 case round =>
  obtain ⟨i,hi,rfl,ab,hb,bR,rz⟩:=hrel
  have cQ:=hb.size
  have mP:=HX.o.2.2.2
  have x0:=zj HX.o.1 hb Om
  have x1:=zj HX.o.2.1 hb Om
  have aq:=HX.o.2.2.1.trans (hb.mono Om)
  obtain ⟨b0,b1⟩:=zf x0
  obtain ⟨d0,d1⟩:=zf x1
  have z0:=zi x0
  have z1:=zi x1
  by_cases aj:i<n
  ·have cW:(i:Int)<(n:Int):=by omega
   have cJ:i<A.length:=by rw [HL.o];exact aj
   have NI:i<TL.length:=by rw [mV.o.1,HL.o];exact aj
   have qq:i<NL.length:=by rw [JF.o.1,HL.o];exact aj
   obtain ⟨g,o,vl,rfl,hg,aU,aP,dt⟩:=HM.o i cJ
   obtain ⟨va,vc,rfl,ju⟩:=dt
   have sO:=Hy ju
   have e0:=(aq.cell (p:=⟨g,_,none⟩) hg).trans aU
   have zg:=Nat.lt_of_lt_of_le hg aq.size
   have aY:=HV.o _ (List.getElem_mem cJ)
   have pG:=Hy (NH.o i cJ)
   have p9:=Hy (gG.o i NI cJ)
   have r8:=Hy (JF.o.2 i qq cJ)
   have vC:=Hy (mV.o.2 i NI cJ)
   have JG:=Hy (HOk.o i cJ)
   obtain ⟨m,hm⟩:=Ex (A[i].2.length)
   have dp:=Hy hm
   rw [hm] at aP aY
   obtain ⟨nm,aJ⟩:=Ex (A[i].1)
   rw [aJ] at e0 aY pG
   obtain ⟨⟨tn,tr,ts⟩,gJ⟩:∃ t,tyG T A[i]=t:=⟨_,rfl⟩
   rw [gJ] at pG r8 vC JG
   have hT:=fun w' (co:Below wr.heap.size wr w')=>fF.o w' (aq.trans (co.mono aq.size)) nm aY.1
   rw [pG.o] at hT
   have HT:=Hy (fun w' (co:Below wr.heap.size wr w')=>(show Calls prog 87 #[.agg #[tv,cv],.string ⟨nm.toArray⟩] w' (fun en w''=>en=.returned (.tuple #[.agg #[.string ⟨tn.toArray⟩,.int .i64 tr,.bool ts],.bool true])/\Below w'.heap.size w' w'') from hT w' co))
   obtain ⟨ra,rc,rfl⟩:=zh ab
   have kg:=aY.2
   have pC:=Hy aP
   have HI:=Hy (An ab (An hb (An bR (An rz (An x0 x1)))))
   have kM:=Hy aq
   clear ab hb bR rz x0 x1 aq ju aU aP hm aJ gJ hT aY
   have kh:∀ ob,(wr.drew.alloc ob).cell? ⟨w.heap.size,0,none⟩=some (tv):=fun ob=>(((Below.refl wr.drew.heap.size wr.drew).alloc Lr ob).cell (p:=⟨w.heap.size,_,none⟩) z0).trans b0
   have ki:∀ ob,(wr.drew.alloc ob).cell? ⟨w.heap.size,1,none⟩=some (cv):=fun ob=>(((Below.refl wr.drew.heap.size wr.drew).alloc Lr ob).cell (p:=⟨w.heap.size,_,none⟩) z0).trans b1
   have pF:∀ ob,(wr.drew.alloc ob).cell? ⟨w.heap.size+1,1,none⟩=some (.slice (some ⟨g,o,none⟩) n c):=fun ob=>(((Below.refl wr.drew.heap.size wr.drew).alloc Lr ob).cell (p:=⟨w.heap.size+1,_,none⟩) z1).trans d1
   have kj:∀ ob,(wr.drew.alloc ob).cell? ⟨g,o+i*2,none⟩=some (.string ⟨nm.toArray⟩):=fun ob=>(((Below.refl wr.drew.heap.size wr.drew).alloc Lr ob).cell (p:=⟨g,_,none⟩) zg).trans e0
   have ng:g≠wr.heap.size:=Nat.ne_of_lt zg
   have nwheapsize:w.heap.size≠wr.heap.size:=Nat.ne_of_lt z0
   have nwheapsize1:w.heap.size+1≠wr.heap.size:=Nat.ne_of_lt z1
   go_wp2_with fail
   go_region_held3 (fun w'=>w'.cell? ⟨w.heap.size,0,none⟩=some (tv)/\w'.cell? ⟨w.heap.size,1,none⟩=some (cv)/\w'.cell? ⟨w.heap.size+1,1,none⟩=some (.slice (some ⟨g,o,none⟩) n c)/\w'.cell? ⟨g,o+i*2,none⟩=some (.string ⟨nm.toArray⟩)) (first | exact ⟨aE,au,ef,cg⟩ | exact ⟨b0,b1,d1,e0⟩ | exact ⟨(jP _),(jQ _),(qr _),(kW _)⟩ | exact ⟨(kh _),(ki _),(pF _),(kj _)⟩ | exact ⟨((zY nwheapsize _ _ _ _ _ _ _).trans aE),((zY nwheapsize _ _ _ _ _ _ _).trans au),((zY nwheapsize1 _ _ _ _ _ _ _).trans ef),((zY ng _ _ _ _ _ _ _).trans cg)⟩ | go_keep)
    (first | (go_at_call 87;(with_reducible refine (HT.o _ (by first | exact (Br wr).drew | exact ((Br wr).drew.alloc Lr _) | exact ((Br wr).alloc Lr _).drew)).mono ?_);rintro en w5 ⟨rfl,ai⟩;have aQ:Below wr.heap.size wr w5:=(by first | exact (Br wr).drew.trans ai | exact ((Br wr).drew.alloc Lr _).trans (ai.mono Sm) | exact (((Br wr).alloc Lr _).drew).trans (ai.mono (by show _<=(wr.alloc _).heap.size;simp)));have aE:=(aQ.cell (p:=⟨w.heap.size,_,none⟩) z0).trans b0;have jP:∀ ob,(w5.alloc ob).cell? ⟨w.heap.size,0,none⟩=some (tv):=(fun ob=>(((Below.refl w5.heap.size w5).alloc Lr ob).cell (p:=⟨w.heap.size,_,none⟩) (Nat.lt_of_lt_of_le z0 aQ.size)).trans aE);have au:=(aQ.cell (p:=⟨w.heap.size,_,none⟩) z0).trans b1;have jQ:∀ ob,(w5.alloc ob).cell? ⟨w.heap.size,1,none⟩=some (cv):=(fun ob=>(((Below.refl w5.heap.size w5).alloc Lr ob).cell (p:=⟨w.heap.size,_,none⟩) (Nat.lt_of_lt_of_le z0 aQ.size)).trans au);have ef:=(aQ.cell (p:=⟨w.heap.size+1,_,none⟩) z1).trans d1;have qr:∀ ob,(w5.alloc ob).cell? ⟨w.heap.size+1,1,none⟩=some (.slice (some ⟨g,o,none⟩) n c):=(fun ob=>(((Below.refl w5.heap.size w5).alloc Lr ob).cell (p:=⟨w.heap.size+1,_,none⟩) (Nat.lt_of_lt_of_le z1 aQ.size)).trans ef);have cg:=(aQ.cell (p:=⟨g,_,none⟩) zg).trans e0;have kW:∀ ob,(w5.alloc ob).cell? ⟨g,o+i*2,none⟩=some (.string ⟨nm.toArray⟩):=(fun ob=>(((Below.refl w5.heap.size w5).alloc Lr ob).cell (p:=⟨g,_,none⟩) (Nat.lt_of_lt_of_le zg aQ.size)).trans cg);have c7:=Hy aQ;try (have aw:w5.heap[wr.heap.size]?=some (.cells #[.string ⟨#[]⟩,.int .i64 0,.bool false] 69 (0,0)):=(by first | exact zj (heap_alloc_new wr.drew _) ai Sm | exact zj (w:=(wr.alloc _).drew) (heap_alloc_new wr _) ai (by show _<(wr.alloc _).heap.size;simp));have b0_:=zq aw 0 _ rfl;have f0_:=zc aw 0;have b1_:=zq aw 1 _ rfl;have f1_:=zc aw 1;have b2_:=zq aw 2 _ rfl;have f2_:=zc aw 2;have bY:=Hy aw;clear aw);clear ai aQ))
   all_goals
    first
     | (obtain ⟨W7,aT⟩:=Ex (((w5.setCell ⟨wr.heap.size,0,none⟩ (.string ⟨tn.toArray⟩)).setCell ⟨wr.heap.size,1,none⟩ (.int .i64 tr)).setCell ⟨wr.heap.size,2,none⟩ (.bool ts));have aD:W7.heap[wr.heap.size]?=some (.cells #[.string ⟨tn.toArray⟩,.int .i64 tr,.bool ts] 69 (0,0)):=(by rw [<- aT];exact zbR bY.o _ _ _);have aR:Below wr.heap.size wr W7:=(by rw [<- aT];exact zbV c7.o Lr _ _ _);rw [aT];obtain ⟨bx,dC⟩:=Ex wr.heap.size;have mT:=Hy (show wr.heap.size<=bx by have:=c7.o.size;omega);rw [dC] at aD ⊢;have H7:=Hy (An aD aR);clear aD aR aT dC)
     | (obtain ⟨W7,aT⟩:=Ex (w5.alloc (.cells #[.string ⟨tn.toArray⟩,.int .i64 tr,.bool ts] 69));have aD:W7.heap[w5.heap.size]?=some (.cells #[.string ⟨tn.toArray⟩,.int .i64 tr,.bool ts] 69 (0,0)):=(by rw [<- aT];exact heap_alloc_new w5 _);have aR:Below wr.heap.size wr W7:=(by rw [<- aT];exact c7.o.alloc c7.o.size _);rw [aT];obtain ⟨bx,dC⟩:=Ex w5.heap.size;have mT:=Hy (show wr.heap.size<=bx by have:=c7.o.size;omega);rw [dC] at aD ⊢;have H7:=Hy (An aD aR);clear aD aR aT dC)
   all_goals
    try clear aE au ef cg
    try clear jP jQ qr kW
    try clear kh ki pF kj
    try clear b0_ f0_
    try clear b1_ f1_
    try clear b2_ f2_
    try clear bY
    try clear c7
   all_goals
    have own7:=zu HI.o.1 H7.o.2
    have JH:(NL.take i).length=i:=by rw [List.length_take];omega
    have NJ:TxR W7 (.slice ra i rc) (NL.take i):=by
     have:=zaL (l:=NL.take i) (by rw [JH];exact own7)
     exact this
    have xF:=zkh (NL.take i) tn (.slice ra i rc) W7 NJ (by rw [JH];omega)
    have kn:=H7.o.2.size
    have wH:=Hy own7
    obtain ⟨c0,c1,c2⟩:=ze H7.o.1
    have eJ:=HI.o.2.1
    have JI:Below (w.heap.size+2) W1 W7:=eJ.trans (H7.o.2.mono Om)
    have j7:=Hy JI
    clear own7 NJ JH eJ JI
    cases cz:inL (NL.take i) tn
    case true =>
     rw [cz] at xF
     have pE:=Hy xF
     have HR:=Hy (show R=20 from xE.o (fun fs=>by
      obtain ⟨q,hq⟩:∃ q,ixL (NL.take i) tn=some q:=by
       have:=zg9 (N:=NL.take i) (s:=tn)
       rw [cz] at this
       exact Option.isSome_iff_exists.1 this
      exact ze5 qq r8.o hq fs))
     have iT:=Hy (HX.o.2.2.1.trans (j7.o.mono Om))
     clear xF cz
     try clear b0 b1 d1 e0
     go_wp2_with fail
     refine pE.o.mono ?_
     rintro en w8 ⟨rfl,hw⟩
     obtain rfl:=hw.symm
     clear hw
     go_wp2
     go_ret
     exact zaV (by rw [HR.o];rfl) iT.o
    case false =>
     rw [cz] at xF
     have pE:=Hy xF
     have Dm:(NL.take (i+1)).Nodup:=by
      rw [List.take_succ_eq_append_getElem qq,r8.o]
      refine zfX HI.o.2.2.1 ?_
      have:=zg9 (N:=NL.take i) (s:=tn)
      rw [cz] at this
      cases hq:ixL (NL.take i) tn
      ·rfl
      rw [hq] at this;cases this
     have JJ:=Hy Dm
     have uU:sc (NL.take (i+1))=sc (NL.take i)++[.string ⟨tn.toArray⟩]:=by
      have:=zqh (N:=NL) i qq
      rw [r8.o] at this
      exact this
     have CM:=Hy uU
     have Bh:=zi H7.o.1
     have ft:=HX.o.2.2.1.trans (j7.o.mono Om)
     have JK:=Hy ft
     have Dn:w.heap.size+2<=W7.heap.size:=by omega
     clear xF cz Dm uU ft
     try clear b0 b1 d1 e0
     go_wp2_with fail
     refine pE.o.mono ?_
     rintro en w8 ⟨rfl,hw⟩
     obtain rfl:=hw.symm
     clear hw
     go_wp2_with (at_builtin;refine zaM rfl (.tmp 37) (.tmp 40) 47 9 rfl (w.heap.size+2) 1 16 _ Tryz.sninfo9 underlying47 rfl De [_] rfl (by intro u hu;simp at hu;subst hu;rfl) (.slice ra i rc) i (sc (NL.take i)) rfl _ rfl rfl wH.o Mx Om Dn ?_;intro v' w8 g1 g2 g3;obtain ⟨na,nc,rfl⟩:=zh g1;have jG:=zV H7.o.1 g2 (fun e=>by have:=(HI.o.1.lt _ e.symm).2;have hh:wr.heap.size<=bx:=mT.o;omega);have rC:Below (w.heap.size+2) W7 w8:=g2.toBelow Dn (fun k _ hk=>(wH.o.lt k hk.symm).1);have y1:=zj HI.o.2.2.2.2.2 (H7.o.2) z1;have y1:=zj y1 rC Om;obtain ⟨d0,d1⟩:=zf y1;have e1:=((JK.o.trans (rC.mono Om)).cell (p:=⟨g,_,none⟩) hg).trans pC.o;have H8:=Hy (An g1 (An jG (An (j7.o.trans rC) y1)));have hz8:=g2.size;clear g1 g2 g3 jG rC y1)
     clear d0 d1 e1
     go_loopw [10] (fun v wz=>∃ k:Nat,k<=m/\v=.int .i64 (k:Nat)/\Below w8.heap.size w8 wz/\∀ p (hp:p<A[i].2.length) q (hq:q<p),p<k->((ruN tr (A[i].2[q]'(by omega))).1==(ruN tr A[i].2[p]).1)=false) (fun v _=>m - (intOf v).toNat)
     case atStart=>exact ⟨0,by omega,rfl,Br _,fun p _ _ _ h=>by omega⟩
     case round =>
      obtain ⟨k,hk,rfl,cL,aH⟩:=hrel
      by_cases aO:k<m
      ·have bh:(k:Int)<(m:Int):=by omega
       have JL:k<A[i].2.length:=by rw [dp.o];exact aO
       have n8:=Hy cL
       have HNE:=Hy aH
       clear cL aH
       go_wp2
       go_loopw [11] (fun v wy=>∃ j:Nat,j<=k/\v=.int .i64 (j:Nat)/\Below w8.heap.size w8 wy/\∀ q (hq:q<k),q<j->((ruN tr (A[i].2[q]'(by omega))).1==(ruN tr A[i].2[k]).1)=false) (fun v _=>k - (intOf v).toNat)
       case atStart=>exact ⟨0,by omega,rfl,n8.o,fun q _ h=>by omega⟩
       case round =>
        obtain ⟨j,hj,rfl,dm,Fe⟩:=hrel
        by_cases fB:j<k
        ·have lT:(j:Int)<(k:Int):=by omega
         have jq:(j:Int)<(m:Int):=by omega
         have Do:j<A[i].2.length:=by omega
         have jv:Below w.heap.size w wr:=(HX.o.2.2.1.trans (H8.o.2.2.1.mono Om)).trans (dm.mono Om)
         obtain ⟨g3,o3,lY,fq,lD⟩:=sO.o j Do
         obtain ⟨g4,o4,vD,_,NK⟩:=sO.o k JL
         subst lY
         injection vD with vD
         injection vD with h1 h2
         subst h1 h2
         have v0:=(jv.cell (p:=⟨g3,_,none⟩) fq).trans lD
         have v1:=(jv.cell (p:=⟨g3,_,none⟩) fq).trans NK
         obtain ⟨c0,c1,c2⟩:=ze (Ob H8.o.2.1 dm)
         have oF:=JG.o j Do
         have iH:=JG.o k JL
         have vE:=Hy (fun (hh:((ruN tr (A[i].2[j]'Do)).1==(ruN tr (A[i].2[k]'JL)).1)=true)=>zBd (t:=(tn,tr,ts)) (a:=A[i]) k JL j fB hh)
         have gT:=Hy (fun (hx:((ruN tr (A[i].2[j]'Om)).1==(ruN tr A[i].2[k]).1)=false) q (hq:q<k) (h:q<j+1)=>(show ((ruN tr (A[i].2[q]'Om)).1==(ruN tr A[i].2[k]).1)=false by
          by_cases e:q=j
          ·subst e;exact hx
          exact Fe q hq Om))
         obtain ⟨x,hx⟩:=Ex (A[i].2[j])
         obtain ⟨y,hy⟩:=Ex (A[i].2[k])
         have jR:=Hy (An hx hy)
         rw [hx] at v0 oF
         rw [hy] at v1 iH
         have Fd:=Nat.lt_of_lt_of_le fq jv.size
         have zbx:bx<wr.heap.size:=Nat.lt_of_lt_of_le (zi H8.o.2.1) dm.size
         have rD:=fun w'=>zp8 tr x y w'
         obtain ⟨⟨X,p1⟩,hX⟩:∃ p,ruN tr x=p:=⟨_,rfl⟩
         obtain ⟨⟨Y,p2⟩,hY⟩:∃ p,ruN tr y=p:=⟨_,rfl⟩
         simp only [hX] at rD;rw [hX] at oF
         simp only [hY] at rD;rw [hY] at iH
         simp only at oF iH
         subst oF iH
         simp only [zoJ] at rD
         have HQ:=Hy (show ((ruN tr A[i].2[j]).1==(ruN tr A[i].2[k]).1)=(X==Y) by rw [jR.o.1,jR.o.2,hX,hY])
         have lG:=Hy dm
         have Dp:=Hy jv
         clear dm Fe lD NK hx hy hX hY jv
         cases hq:(X==Y)
         ·simp only [hq] at rD
          have yw:=Hy (fun w'=>(show Calls prog 125 #[.int .i64 tr,.string ⟨x.toArray⟩,.string ⟨y.toArray⟩] w' (zfR 0 w') from rD w'))
          have HN:=Hy (gT.o (by rw [HQ.o];exact hq))
          clear rD hq
          go_wp2_with fail
          go_region_held3 (fun w'=>w'.cell? ⟨bx,1,none⟩=some (.int .i64 tr)/\w'.cell? ⟨g3,o3+j,none⟩=some (.string ⟨x.toArray⟩)/\w'.cell? ⟨g3,o3+k,none⟩=some (.string ⟨y.toArray⟩)) (first | exact ⟨eX,k7,dl⟩ | exact ⟨c1,v0,v1⟩ | go_keep)
           (first | (go_at_call 125;(with_reducible refine (yw.o _).mono ?_);rintro en w9 ⟨rfl,bv⟩;have aQ:Below wr.heap.size wr w9:=(Br wr).drew.trans bv;have eX:=(aQ.cell (p:=⟨bx,_,none⟩) zbx).trans c1;have k7:=(aQ.cell (p:=⟨g3,_,none⟩) Fd).trans v0;have dl:=(aQ.cell (p:=⟨g3,_,none⟩) Fd).trans v1;clear bv))
          have eM:=Hy (lG.o.trans (aQ.mono lG.o.size))
          clear aQ eX k7 dl v0 v1 c0 c1 c2
          go_wp2
          exact ⟨⟨j+1,by omega,by go_num,eM.o,HN.o⟩,by simp [intOf];omega⟩
         simp only [hq] at rD
         have yw:=Hy (fun w'=>(show Calls prog 125 #[.int .i64 tr,.string ⟨x.toArray⟩,.string ⟨y.toArray⟩] w' (zfR 1 w') from rD w'))
         have HR:=Hy (show R=20 from p9.o (by rw [vC.o,];exact vE.o (by rw [<- hq,<- HQ.o])))
         clear rD hq
         go_wp2_with fail
         go_region_held3 (fun w'=>w'.cell? ⟨bx,1,none⟩=some (.int .i64 tr)/\w'.cell? ⟨g3,o3+j,none⟩=some (.string ⟨x.toArray⟩)/\w'.cell? ⟨g3,o3+k,none⟩=some (.string ⟨y.toArray⟩)) (first | exact ⟨eX,k7,dl⟩ | exact ⟨c1,v0,v1⟩ | go_keep)
          (first | (go_at_call 125;(with_reducible refine (yw.o _).mono ?_);rintro en w9 ⟨rfl,bv⟩;have aQ:Below wr.heap.size wr w9:=(Br wr).drew.trans bv;have eX:=(aQ.cell (p:=⟨bx,_,none⟩) zbx).trans c1;have k7:=(aQ.cell (p:=⟨g3,_,none⟩) Fd).trans v0;have dl:=(aQ.cell (p:=⟨g3,_,none⟩) Fd).trans v1;clear bv))
         have eM:=Hy (Dp.o.trans (aQ.mono Dp.o.size))
         clear aQ eX k7 dl v0 v1 c0 c1 c2
         go_wp2
         go_ret
         exact zaV (by rw [HR.o];rfl) eM.o
        obtain rfl:j=k:=by omega
        have HF:=Hy (show ∀ p (hp:p<A[i].2.length) q (hq:q<p),p<j+1->((ruN tr (A[i].2[q]'Om)).1==(ruN tr A[i].2[p]).1)=false from fun p hp q hq h=>by
         by_cases e:p=j
         ·subst e;exact Fe q hq hq
         exact HNE.o p hp q hq Om)
        have lG:=Hy dm
        clear dm Fe
        go_wp2
        exact ⟨⟨j+1,by omega,by go_num,lG.o,HF.o⟩,by simp [intOf];omega⟩
      obtain rfl:k=m:=by omega
      have bg:=zu H8.o.1 cL
      have hd:zan (nmV TL[i] A[i])=false:=by
       rw [vC.o]
       exact zBe (t:=(tn,tr,ts)) (a:=A[i]) (fun p hp q hq=>aH p hp q hq (by rw [<- dp.o];exact hp))
      have HF:=Hy (show ∀ j (h1:j<TL.length) (h2:j<A.length),j<i+1->zan (nmV TL[j] A[j])=false from fun j h1 h2 h=>by
       by_cases e:j=i
       ·subst e;exact hd
       exact HI.o.2.2.2.1 j h1 h2 Om)
      have HG:=Hy (An (show wr.ownsRow (w.heap.size+2) 9 1 (.slice na (i+1) nc) (i+1) (sc (NL.take (i+1))) by rw [CM.o];exact bg) (H8.o.2.2.1.trans (cL.mono Om)))
      clear cL aH bg hd
      go_wp2
      exact ⟨⟨i+1,by omega,by go_num,HG.o.1,HG.o.2,JJ.o,HF.o⟩,by simp [intOf];omega⟩
  obtain rfl:i=n:=by omega
  have fv:NL.take i=NL:=List.take_of_length_le (by rw [JF.o.1,HL.o];exact Nat.le_refl _)
  rw [fv] at bR
  have xG:=Hy (Dl.o bR (fun j h1 h2=>rz j h1 h2 (by rw [<- HL.o];exact h2)))
  obtain ⟨ra,rc,rfl⟩:=zh ab
  have bw:=Hy hb
  clear ab hb bR rz x0 x1 aq fv
  go_wp2
  clear b0 b1 d0 d1
  go_loopw [12] (fun v wz=>∃ k:Nat,k<=i/\v=.int .i64 (k:Nat)/\Below (w.heap.size+2) W1 wz/\∀ j (h1:j<TL.length) (h2:j<A.length),j<k->(TL[j].2.2 && decide (1<A[j].2.length))=false) (fun v _=>i - (intOf v).toNat)
  case atStart=>exact ⟨0,by omega,rfl,bw.o,fun j _ _ h=>by omega⟩
  case round =>
   obtain ⟨k,hk,rfl,hb,pB⟩:=hrel
   have cQ:=hb.size
   have x0:=zj HX.o.1 hb Om
   have x1:=zj HX.o.2.1 hb Om
   have aq:=HX.o.2.2.1.trans (hb.mono Om)
   obtain ⟨b0,b1⟩:=zf x0
   obtain ⟨d0,d1⟩:=zf x1
   have z0:=zi x0
   have z1:=zi x1
   by_cases cZ:k<i
   ·have bh:(k:Int)<(i:Int):=by omega
    have aO:k<A.length:=by rw [HL.o];exact cZ
    have sS:k<TL.length:=by rw [mV.o.1,HL.o];exact cZ
    obtain ⟨g,o,vl,rfl,hg,aU,aP,dt⟩:=HM.o k aO
    obtain ⟨va,vc,rfl,ju⟩:=dt
    have e0:=(aq.cell (p:=⟨g,_,none⟩) hg).trans aU
    have zg:=Nat.lt_of_lt_of_le hg aq.size
    have aY:=HV.o _ (List.getElem_mem aO)
    have pG:=Hy (NH.o k aO)
    have vC:=Hy (mV.o.2 k sS aO)
    have vE:=Hy (sN.o k sS aO)
    have gT:=Hy (fun (hx:(TL[k].2.2 && decide (1<A[k].2.length))=false) j (h1:j<TL.length) (h2:j<A.length) (h:j<k+1)=>(show (TL[j].2.2 && decide (1<A[j].2.length))=false by
     by_cases e:j=k
     ·subst e;exact hx
     exact pB j h1 h2 Om))
    obtain ⟨m,hm⟩:=Ex (A[k].2.length)
    have dp:=Hy hm
    rw [hm] at aP
    obtain ⟨nm,aJ⟩:=Ex (A[k].1)
    rw [aJ] at e0 aY pG
    obtain ⟨⟨tn,tr,ts⟩,gJ⟩:∃ t,tyG T A[k]=t:=⟨_,rfl⟩
    rw [gJ] at pG vC
    have hT:=fun w' (co:Below wr.heap.size wr w')=>fF.o w' (aq.trans (co.mono aq.size)) nm aY.1
    rw [pG.o] at hT
    have HT:=Hy (fun w' (co:Below wr.heap.size wr w')=>(show Calls prog 87 #[.agg #[tv,cv],.string ⟨nm.toArray⟩] w' (fun en w''=>en=.returned (.tuple #[.agg #[.string ⟨tn.toArray⟩,.int .i64 tr,.bool ts],.bool true])/\Below w'.heap.size w' w'') from hT w' co))
    have pC:=Hy aP
    have HI:=Hy (An hb (An x1 aq))
    clear hb x0 x1 aq ju aU aP hm aJ gJ hT aY pB
    have kh:∀ ob,(wr.drew.alloc ob).cell? ⟨w.heap.size,0,none⟩=some (tv):=fun ob=>(((Below.refl wr.drew.heap.size wr.drew).alloc Lr ob).cell (p:=⟨w.heap.size,_,none⟩) z0).trans b0
    have ki:∀ ob,(wr.drew.alloc ob).cell? ⟨w.heap.size,1,none⟩=some (cv):=fun ob=>(((Below.refl wr.drew.heap.size wr.drew).alloc Lr ob).cell (p:=⟨w.heap.size,_,none⟩) z0).trans b1
    have pF:∀ ob,(wr.drew.alloc ob).cell? ⟨w.heap.size+1,1,none⟩=some (.slice (some ⟨g,o,none⟩) i c):=fun ob=>(((Below.refl wr.drew.heap.size wr.drew).alloc Lr ob).cell (p:=⟨w.heap.size+1,_,none⟩) z1).trans d1
    have kj:∀ ob,(wr.drew.alloc ob).cell? ⟨g,o+k*2,none⟩=some (.string ⟨nm.toArray⟩):=fun ob=>(((Below.refl wr.drew.heap.size wr.drew).alloc Lr ob).cell (p:=⟨g,_,none⟩) zg).trans e0
    have ng:g≠wr.heap.size:=Nat.ne_of_lt zg
    have nwheapsize:w.heap.size≠wr.heap.size:=Nat.ne_of_lt z0
    have nwheapsize1:w.heap.size+1≠wr.heap.size:=Nat.ne_of_lt z1
    go_wp2_with fail
    go_region_held3 (fun w'=>w'.cell? ⟨w.heap.size,0,none⟩=some (tv)/\w'.cell? ⟨w.heap.size,1,none⟩=some (cv)/\w'.cell? ⟨w.heap.size+1,1,none⟩=some (.slice (some ⟨g,o,none⟩) i c)/\w'.cell? ⟨g,o+k*2,none⟩=some (.string ⟨nm.toArray⟩)) (first | exact ⟨aE,au,ef,cg⟩ | exact ⟨b0,b1,d1,e0⟩ | exact ⟨(jP _),(jQ _),(qr _),(kW _)⟩ | exact ⟨(kh _),(ki _),(pF _),(kj _)⟩ | exact ⟨((zY nwheapsize _ _ _ _ _ _ _).trans aE),((zY nwheapsize _ _ _ _ _ _ _).trans au),((zY nwheapsize1 _ _ _ _ _ _ _).trans ef),((zY ng _ _ _ _ _ _ _).trans cg)⟩ | go_keep)
     (first | (go_at_call 87;(with_reducible refine (HT.o _ (by first | exact (Br wr).drew | exact ((Br wr).drew.alloc Lr _) | exact ((Br wr).alloc Lr _).drew)).mono ?_);rintro en w5 ⟨rfl,ai⟩;have aQ:Below wr.heap.size wr w5:=(by first | exact (Br wr).drew.trans ai | exact ((Br wr).drew.alloc Lr _).trans (ai.mono Sm) | exact (((Br wr).alloc Lr _).drew).trans (ai.mono (by show _<=(wr.alloc _).heap.size;simp)));have aE:=(aQ.cell (p:=⟨w.heap.size,_,none⟩) z0).trans b0;have jP:∀ ob,(w5.alloc ob).cell? ⟨w.heap.size,0,none⟩=some (tv):=(fun ob=>(((Below.refl w5.heap.size w5).alloc Lr ob).cell (p:=⟨w.heap.size,_,none⟩) (Nat.lt_of_lt_of_le z0 aQ.size)).trans aE);have au:=(aQ.cell (p:=⟨w.heap.size,_,none⟩) z0).trans b1;have jQ:∀ ob,(w5.alloc ob).cell? ⟨w.heap.size,1,none⟩=some (cv):=(fun ob=>(((Below.refl w5.heap.size w5).alloc Lr ob).cell (p:=⟨w.heap.size,_,none⟩) (Nat.lt_of_lt_of_le z0 aQ.size)).trans au);have ef:=(aQ.cell (p:=⟨w.heap.size+1,_,none⟩) z1).trans d1;have qr:∀ ob,(w5.alloc ob).cell? ⟨w.heap.size+1,1,none⟩=some (.slice (some ⟨g,o,none⟩) i c):=(fun ob=>(((Below.refl w5.heap.size w5).alloc Lr ob).cell (p:=⟨w.heap.size+1,_,none⟩) (Nat.lt_of_lt_of_le z1 aQ.size)).trans ef);have cg:=(aQ.cell (p:=⟨g,_,none⟩) zg).trans e0;have kW:∀ ob,(w5.alloc ob).cell? ⟨g,o+k*2,none⟩=some (.string ⟨nm.toArray⟩):=(fun ob=>(((Below.refl w5.heap.size w5).alloc Lr ob).cell (p:=⟨g,_,none⟩) (Nat.lt_of_lt_of_le zg aQ.size)).trans cg);have c7:=Hy aQ;try (have aw:w5.heap[wr.heap.size]?=some (.cells #[.string ⟨#[]⟩,.int .i64 0,.bool false] 69 (0,0)):=(by first | exact zj (heap_alloc_new wr.drew _) ai Sm | exact zj (w:=(wr.alloc _).drew) (heap_alloc_new wr _) ai (by show _<(wr.alloc _).heap.size;simp));have b0_:=zq aw 0 _ rfl;have f0_:=zc aw 0;have b1_:=zq aw 1 _ rfl;have f1_:=zc aw 1;have b2_:=zq aw 2 _ rfl;have f2_:=zc aw 2;have bY:=Hy aw;clear aw);clear ai aQ))
    all_goals
     first
      | (obtain ⟨W7,aT⟩:=Ex (((w5.setCell ⟨wr.heap.size,0,none⟩ (.string ⟨tn.toArray⟩)).setCell ⟨wr.heap.size,1,none⟩ (.int .i64 tr)).setCell ⟨wr.heap.size,2,none⟩ (.bool ts));have aD:W7.heap[wr.heap.size]?=some (.cells #[.string ⟨tn.toArray⟩,.int .i64 tr,.bool ts] 69 (0,0)):=(by rw [<- aT];exact zbR bY.o _ _ _);have aR:Below wr.heap.size wr W7:=(by rw [<- aT];exact zbV c7.o Lr _ _ _);rw [aT];obtain ⟨bx,dC⟩:=Ex wr.heap.size;have mT:=Hy (show wr.heap.size<=bx by have:=c7.o.size;omega);rw [dC] at aD ⊢;have H7:=Hy (An aD aR);clear aD aR aT dC)
      | (obtain ⟨W7,aT⟩:=Ex (w5.alloc (.cells #[.string ⟨tn.toArray⟩,.int .i64 tr,.bool ts] 69));have aD:W7.heap[w5.heap.size]?=some (.cells #[.string ⟨tn.toArray⟩,.int .i64 tr,.bool ts] 69 (0,0)):=(by rw [<- aT];exact heap_alloc_new w5 _);have aR:Below wr.heap.size wr W7:=(by rw [<- aT];exact c7.o.alloc c7.o.size _);rw [aT];obtain ⟨bx,dC⟩:=Ex w5.heap.size;have mT:=Hy (show wr.heap.size<=bx by have:=c7.o.size;omega);rw [dC] at aD ⊢;have H7:=Hy (An aD aR);clear aD aR aT dC)
    all_goals
     try clear aE au ef cg
     try clear jP jQ qr kW
     try clear kh ki pF kj
     try clear b0_ f0_
     try clear b1_ f1_
     try clear b2_ f2_
     try clear bY
     try clear c7
    all_goals
     have aR:=HI.o.1.trans (H7.o.2.mono Om)
     have ft:=HI.o.2.2.trans (H7.o.2.mono HI.o.2.2.size)
     obtain ⟨c0,c1,c2⟩:=ze H7.o.1
     have y1:=zj HI.o.2.1 H7.o.2 z1
     obtain ⟨JM,xH⟩:=zf y1
     have e1:=(ft.cell (p:=⟨g,_,none⟩) hg).trans pC.o
     have j7:=Hy (An aR ft)
     clear aR ft y1
     try clear b0 b1 d1 e0
     by_cases fh:ts=true/\1<m
     ·obtain ⟨rfl,Dq⟩:=fh
      have JN:(1:Int)<(m:Int):=by omega
      have HR:=Hy (show R=19 by
       rw [xG.o,vE.o (by rw [vC.o,dp.o];simpa using Dq)];rfl)
      clear Dq
      go_wp2
      go_ret
      exact zaV (by rw [HR.o];rfl) j7.o.2
     have HN:=Hy (gT.o (by
      rw [vC.o,dp.o]
      cases ts
      ·rfl
      simp at fh ⊢;omega))
     have hw:ts=false\/(ts=true/\¬ (1:Int)<(m:Int)):=by
      cases ts
      ·exact .inl rfl
      exact .inr ⟨rfl,by simp at fh;omega⟩
     clear fh
     rcases hw with rfl | ⟨rfl,JN⟩
     all_goals
      go_wp2
      exact ⟨⟨k+1,by omega,by go_num,j7.o.1,HN.o⟩,by simp [intOf];omega⟩
   obtain rfl:k=i:=by omega
   have HR:=Hy (show R=0 by
    rw [xG.o,HTn.o (fun j h1 h2=>pB j h1 h2 (by rw [<- HL.o];exact h2))];rfl)
   have iT:=Hy aq
   clear hb x0 x1 aq pB
   go_wp2
   go_ret
   exact zaV (by rw [HR.o];rfl) iT.o
end Go.Proofs.YtijglbolppkefaaGreatDoor
