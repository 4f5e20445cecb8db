/- Values of an entry, as the. -/
import Derived.Test.YtijglbolppkefaaGreatDoorScO
set_option linter.unusedVariables false
set_option linter.unusedSimpArgs false
set_option maxHeartbeats 25600000
set_option maxRecDepth 100000
namespace Go.Proofs.YtijglbolppkefaaGreatDoor
open Go.Proofs.Tryz
open Go Go.RowKit Go.Proofs.BerK Go.Proofs.MemK Go.Proofs.UtfK
variable {T : List Ty} {A : List Atr}
def zbw (T:List Ty) (A:List Atr):Nat:=if zbG T A≠0 then zbG T A else onS (A.map (tyG T)) A
theorem zBi (k:Nat) (hk:k<A.length) (h:scT T A[k].1=none):zaC T A=false:=by
 unfold zaC
 rw [List.all_eq_false]
 exact ⟨A[k],List.getElem_mem hk,by rw [h];simp⟩
theorem zBj (h:∀ k (hk:k<A.length),(scT T A[k].1).isSome=true):zaC T A=true:=by
 unfold zaC
 rw [List.all_eq_true]
 intro x hx
 obtain ⟨j,hj,rfl⟩:=List.getElem_of_mem hx
 exact h j hj
theorem zqE (k:Nat) (hk:k<A.length) (h:A[k].2.length=0):(A.any fun a=>a.2.length==0)=true:=by
 rw [List.any_eq_true]
 exact ⟨A[k],List.getElem_mem hk,by simp [h]⟩
theorem zBk (h:∀ k (hk:k<A.length),A[k].2.length≠0):(A.any fun a=>a.2.length==0)=false:=by
 rw [List.any_eq_false]
 intro x hx
 obtain ⟨j,hj,rfl⟩:=List.getElem_of_mem hx
 simp [h j hj]
theorem zBl (h:zaC T A=false):zbw T A=17:=by unfold zbw zbG;rw [if_pos h];rfl
theorem zBm (h:zaC T A=true) (h2:(A.any fun a=>a.2.length==0)=true):zbw T A=19:=by
 have hv:zbG T A=19:=by unfold zbG;rw [if_neg (by rw [h];simp),if_pos h2]
 unfold zbw;rw [hv,if_pos De]
theorem zBn (h:zaC T A=true) (h2:(A.any fun a=>a.2.length==0)=false) (h3:zbM (A.map (tyG T)) A=false):zbw T A=21:=by
 have hv:zbG T A=21:=by unfold zbG;rw [if_neg (by rw [h];simp),if_neg (by rw [h2];simp),if_pos h3]
 unfold zbw;rw [hv,if_pos De]
theorem zBo (h:zaC T A=true) (h2:(A.any fun a=>a.2.length==0)=false) (h3:zbM (A.map (tyG T)) A=true):zbw T A=onS (A.map (tyG T)) A:=by
 have hv:zbG T A=0:=by unfold zbG;rw [if_neg (by rw [h];simp),if_neg (by rw [h2];simp),if_neg (by rw [h3];simp)]
 unfold zbw;rw [hv,if_neg Sm]
theorem zBp (T:List Ty) (A:List Atr) (tv cv av:Value) (dn:ByteArray) (w:World) (h:zL w tv T) (hA:zaB w av A) (jU:T.length<=1000000) (dL:∀ t∈T,t.1.length<=140737488355328) (hl:A.length<=1000000)
  (hv:∀ a∈A,a.1.length<=140737488355328/\a.2.length<=1000000) :
  Calls prog 81 #[.agg #[tv,cv],.agg #[.string dn,av]] w (ScI (zbw T A:Nat) w):=by
 have fF:=Hy (fun w' (hb:Below w.heap.size w w') s (hs:s.length<=140737488355328)=>zkk T tv cv s w' (zbc h hb) jU dL hs)
 have NM:=Hy (fun w' (hb:Below w.heap.size w w') h1 h2=>zBh T A tv cv av dn w' (zbc h hb) (zbL hA hb) jU dL hl hv h1 h2)
 have Dr:=Hy (zBl (T:=T) (A:=A))
 have Dt:=Hy (zBm (T:=T) (A:=A))
 have Du:=Hy (zBn (T:=T) (A:=A))
 have Dv:=Hy (zBo (T:=T) (A:=A))
 obtain ⟨a,c,rfl,ae⟩:=hA
 have HM:=Hy ae
 have HV:=Hy hv
 obtain ⟨R,hR⟩:=Ex (zbw T A)
 rw [hR] at Dr Dt Du Dv ⊢
 obtain ⟨n,hn⟩:=Ex A.length
 have HL:=Hy hn
 rw [hn] at hl NM ⊢
 obtain ⟨W1,aB⟩:=Ex ((w.alloc (.cells #[tv,cv] 31)).alloc (.cells #[.string dn,.slice a n c] 39))
 have HX:=Hy (zhO aB)
 have br:=Hy aB
 clear ae hv hR hn aB h dL
 go_enter func81,ntmps81
 go_wp2
 rw [br.o]
 go_loopw [5] (fun v wr=>∃ i:Nat,i<=n/\v=.int .i64 (i:Nat)/\Below (w.heap.size+2) W1 wr/\∀ j (h1:j<A.length),j<i->(scT T A[j].1).isSome=true) (fun v _=>n - (intOf v).toNat)
 case atStart=>exact ⟨0,by omega,rfl,Br _,fun j _ h=>by omega⟩
 case round =>
  obtain ⟨i,hi,rfl,hb,af⟩:=hrel
  have cQ:=hb.size
  have mP:=HX.o.2.2.2
  have x0:=zj HX.o.1 hb Om
  have x1:=zj HX.o.2.1 hb Om
  have aq:=HX.o.2.2.1.trans (hb.mono Om)
  obtain ⟨b0,b1⟩:=zf x0
  obtain ⟨d0,d1⟩:=zf x1
  have z0:=zi x0
  have z1:=zi x1
  by_cases aj:i<n
  ·have cW:(i:Int)<(n:Int):=by omega
   have cJ:i<A.length:=by rw [HL.o];exact aj
   obtain ⟨g,o,vl,rfl,hg,aU,aP,dt⟩:=HM.o i cJ
   have e0:=(aq.cell (p:=⟨g,_,none⟩) hg).trans aU
   have zg:=Nat.lt_of_lt_of_le hg aq.size
   have aY:=HV.o _ (List.getElem_mem cJ)
   have gI:=Hy (fun h=>zBi (T:=T) (A:=A) i cJ h)
   have gT:=Hy (fun (hx:(scT T A[i].1).isSome=true) j (h1:j<A.length) (h:j<i+1)=>(show (scT T A[j].1).isSome=true by
    by_cases e:j=i
    ·subst e;exact hx
    exact af j h1 Om))
   obtain ⟨nm,aJ⟩:=Ex (A[i].1)
   rw [aJ] at e0 aY gI
   have iq:=Hy aJ
   have hT:=fun w' (co:Below wr.heap.size wr w')=>fF.o w' (aq.trans (co.mono aq.size)) nm aY.1
   have HI:=Hy (An hb aq)
   obtain ⟨tt,gJ⟩:=Ex (scT T nm)
   rw [gJ] at hT
   clear hb x0 x1 aq aU aP aJ aY af dt
   cases tt with
   | none =>
    have HT:=Hy (fun w' (co:Below wr.heap.size wr w')=>(show Calls prog 87 #[.agg #[tv,cv],.string ⟨nm.toArray⟩] w' (fun en w''=>en=.returned (.tuple #[.agg #[.string ⟨#[]⟩,.int .i64 0,.bool false],.bool false])/\Below w'.heap.size w' w'') from hT w' co))
    have HR:=Hy (show R=17 from Dr.o (gI.o gJ))
    clear hT gJ
    have kh:∀ ob,(wr.drew.alloc ob).cell? ⟨w.heap.size,0,none⟩=some (tv):=fun ob=>(((Below.refl wr.drew.heap.size wr.drew).alloc Lr ob).cell (p:=⟨w.heap.size,_,none⟩) z0).trans b0
    have ki:∀ ob,(wr.drew.alloc ob).cell? ⟨w.heap.size,1,none⟩=some (cv):=fun ob=>(((Below.refl wr.drew.heap.size wr.drew).alloc Lr ob).cell (p:=⟨w.heap.size,_,none⟩) z0).trans b1
    have pF:∀ ob,(wr.drew.alloc ob).cell? ⟨w.heap.size+1,1,none⟩=some (.slice (some ⟨g,o,none⟩) n c):=fun ob=>(((Below.refl wr.drew.heap.size wr.drew).alloc Lr ob).cell (p:=⟨w.heap.size+1,_,none⟩) z1).trans d1
    have kj:∀ ob,(wr.drew.alloc ob).cell? ⟨g,o+i*2,none⟩=some (.string ⟨nm.toArray⟩):=fun ob=>(((Below.refl wr.drew.heap.size wr.drew).alloc Lr ob).cell (p:=⟨g,_,none⟩) zg).trans e0
    have ng:g≠wr.heap.size:=Nat.ne_of_lt zg
    have nwheapsize:w.heap.size≠wr.heap.size:=Nat.ne_of_lt z0
    have nwheapsize1:w.heap.size+1≠wr.heap.size:=Nat.ne_of_lt z1
    go_wp2_with fail
    go_region_held3 (fun w'=>w'.cell? ⟨w.heap.size,0,none⟩=some (tv)/\w'.cell? ⟨w.heap.size,1,none⟩=some (cv)/\w'.cell? ⟨w.heap.size+1,1,none⟩=some (.slice (some ⟨g,o,none⟩) n c)/\w'.cell? ⟨g,o+i*2,none⟩=some (.string ⟨nm.toArray⟩)) (first | exact ⟨aE,au,ef,cg⟩ | exact ⟨b0,b1,d1,e0⟩ | exact ⟨(jP _),(jQ _),(qr _),(kW _)⟩ | exact ⟨(kh _),(ki _),(pF _),(kj _)⟩ | exact ⟨((zY nwheapsize _ _ _ _ _ _ _).trans aE),((zY nwheapsize _ _ _ _ _ _ _).trans au),((zY nwheapsize1 _ _ _ _ _ _ _).trans ef),((zY ng _ _ _ _ _ _ _).trans cg)⟩ | go_keep)
     (first | (go_at_call 87;(with_reducible refine (HT.o _ (by first | exact (Br wr).drew | exact ((Br wr).drew.alloc Lr _) | exact ((Br wr).alloc Lr _).drew)).mono ?_);rintro en w5 ⟨rfl,ai⟩;have aQ:Below wr.heap.size wr w5:=(by first | exact (Br wr).drew.trans ai | exact ((Br wr).drew.alloc Lr _).trans (ai.mono Sm) | exact (((Br wr).alloc Lr _).drew).trans (ai.mono (by show _<=(wr.alloc _).heap.size;simp)));have aE:=(aQ.cell (p:=⟨w.heap.size,_,none⟩) z0).trans b0;have jP:∀ ob,(w5.alloc ob).cell? ⟨w.heap.size,0,none⟩=some (tv):=(fun ob=>(((Below.refl w5.heap.size w5).alloc Lr ob).cell (p:=⟨w.heap.size,_,none⟩) (Nat.lt_of_lt_of_le z0 aQ.size)).trans aE);have au:=(aQ.cell (p:=⟨w.heap.size,_,none⟩) z0).trans b1;have jQ:∀ ob,(w5.alloc ob).cell? ⟨w.heap.size,1,none⟩=some (cv):=(fun ob=>(((Below.refl w5.heap.size w5).alloc Lr ob).cell (p:=⟨w.heap.size,_,none⟩) (Nat.lt_of_lt_of_le z0 aQ.size)).trans au);have ef:=(aQ.cell (p:=⟨w.heap.size+1,_,none⟩) z1).trans d1;have qr:∀ ob,(w5.alloc ob).cell? ⟨w.heap.size+1,1,none⟩=some (.slice (some ⟨g,o,none⟩) n c):=(fun ob=>(((Below.refl w5.heap.size w5).alloc Lr ob).cell (p:=⟨w.heap.size+1,_,none⟩) (Nat.lt_of_lt_of_le z1 aQ.size)).trans ef);have cg:=(aQ.cell (p:=⟨g,_,none⟩) zg).trans e0;have kW:∀ ob,(w5.alloc ob).cell? ⟨g,o+i*2,none⟩=some (.string ⟨nm.toArray⟩):=(fun ob=>(((Below.refl w5.heap.size w5).alloc Lr ob).cell (p:=⟨g,_,none⟩) (Nat.lt_of_lt_of_le zg aQ.size)).trans cg);have c7:=Hy aQ;try (have aw:w5.heap[wr.heap.size]?=some (.cells #[.string ⟨#[]⟩,.int .i64 0,.bool false] 69 (0,0)):=(by first | exact zj (heap_alloc_new wr.drew _) ai Sm | exact zj (w:=(wr.alloc _).drew) (heap_alloc_new wr _) ai (by show _<(wr.alloc _).heap.size;simp));have b0_:=zq aw 0 _ rfl;have f0_:=zc aw 0;have b1_:=zq aw 1 _ rfl;have f1_:=zc aw 1;have b2_:=zq aw 2 _ rfl;have f2_:=zc aw 2;have bY:=Hy aw;clear aw);clear ai aQ))
    all_goals
     first
      | (obtain ⟨W7,aT⟩:=Ex (((w5.setCell ⟨wr.heap.size,0,none⟩ (.string ⟨#[]⟩)).setCell ⟨wr.heap.size,1,none⟩ (.int .i64 0)).setCell ⟨wr.heap.size,2,none⟩ (.bool false));have aD:W7.heap[wr.heap.size]?=some (.cells #[.string ⟨#[]⟩,.int .i64 0,.bool false] 69 (0,0)):=(by rw [<- aT];exact zbR bY.o _ _ _);have aR:Below wr.heap.size wr W7:=(by rw [<- aT];exact zbV c7.o Lr _ _ _);rw [aT];obtain ⟨bx,dC⟩:=Ex wr.heap.size;have mT:=Hy (show wr.heap.size<=bx by have:=c7.o.size;omega);rw [dC] at aD ⊢;have H7:=Hy (An aD aR);clear aD aR aT dC)
      | (obtain ⟨W7,aT⟩:=Ex (w5.alloc (.cells #[.string ⟨#[]⟩,.int .i64 0,.bool false] 69));have aD:W7.heap[w5.heap.size]?=some (.cells #[.string ⟨#[]⟩,.int .i64 0,.bool false] 69 (0,0)):=(by rw [<- aT];exact heap_alloc_new w5 _);have aR:Below wr.heap.size wr W7:=(by rw [<- aT];exact c7.o.alloc c7.o.size _);rw [aT];obtain ⟨bx,dC⟩:=Ex w5.heap.size;have mT:=Hy (show wr.heap.size<=bx by have:=c7.o.size;omega);rw [dC] at aD ⊢;have H7:=Hy (An aD aR);clear aD aR aT dC)
    all_goals
     try clear aE au ef cg
     try clear jP jQ qr kW
     try clear kh ki pF kj
     try clear b0_ f0_
     try clear b1_ f1_
     try clear b2_ f2_
     try clear bY
     try clear c7
    all_goals
     have HB:=Hy (HI.o.2.trans (H7.o.2.mono HI.o.2.size))
     try clear b0 b1 d1 e0
     go_wp2
     go_ret
     exact zaV (by rw [HR.o];rfl) HB.o
   | some tt =>
    obtain ⟨tn,tr,ts⟩:=tt
    have HT:=Hy (fun w' (co:Below wr.heap.size wr w')=>(show Calls prog 87 #[.agg #[tv,cv],.string ⟨nm.toArray⟩] w' (fun en w''=>en=.returned (.tuple #[.agg #[.string ⟨tn.toArray⟩,.int .i64 tr,.bool ts],.bool true])/\Below w'.heap.size w' w'') from hT w' co))
    have HN:=Hy (gT.o (by rw [iq.o,gJ];rfl))
    clear hT gJ
    have kh:∀ ob,(wr.drew.alloc ob).cell? ⟨w.heap.size,0,none⟩=some (tv):=fun ob=>(((Below.refl wr.drew.heap.size wr.drew).alloc Lr ob).cell (p:=⟨w.heap.size,_,none⟩) z0).trans b0
    have ki:∀ ob,(wr.drew.alloc ob).cell? ⟨w.heap.size,1,none⟩=some (cv):=fun ob=>(((Below.refl wr.drew.heap.size wr.drew).alloc Lr ob).cell (p:=⟨w.heap.size,_,none⟩) z0).trans b1
    have pF:∀ ob,(wr.drew.alloc ob).cell? ⟨w.heap.size+1,1,none⟩=some (.slice (some ⟨g,o,none⟩) n c):=fun ob=>(((Below.refl wr.drew.heap.size wr.drew).alloc Lr ob).cell (p:=⟨w.heap.size+1,_,none⟩) z1).trans d1
    have kj:∀ ob,(wr.drew.alloc ob).cell? ⟨g,o+i*2,none⟩=some (.string ⟨nm.toArray⟩):=fun ob=>(((Below.refl wr.drew.heap.size wr.drew).alloc Lr ob).cell (p:=⟨g,_,none⟩) zg).trans e0
    have ng:g≠wr.heap.size:=Nat.ne_of_lt zg
    have nwheapsize:w.heap.size≠wr.heap.size:=Nat.ne_of_lt z0
    have nwheapsize1:w.heap.size+1≠wr.heap.size:=Nat.ne_of_lt z1
    go_wp2_with fail
    go_region_held3 (fun w'=>w'.cell? ⟨w.heap.size,0,none⟩=some (tv)/\w'.cell? ⟨w.heap.size,1,none⟩=some (cv)/\w'.cell? ⟨w.heap.size+1,1,none⟩=some (.slice (some ⟨g,o,none⟩) n c)/\w'.cell? ⟨g,o+i*2,none⟩=some (.string ⟨nm.toArray⟩)) (first | exact ⟨aE,au,ef,cg⟩ | exact ⟨b0,b1,d1,e0⟩ | exact ⟨(jP _),(jQ _),(qr _),(kW _)⟩ | exact ⟨(kh _),(ki _),(pF _),(kj _)⟩ | exact ⟨((zY nwheapsize _ _ _ _ _ _ _).trans aE),((zY nwheapsize _ _ _ _ _ _ _).trans au),((zY nwheapsize1 _ _ _ _ _ _ _).trans ef),((zY ng _ _ _ _ _ _ _).trans cg)⟩ | go_keep)
     (first | (go_at_call 87;(with_reducible refine (HT.o _ (by first | exact (Br wr).drew | exact ((Br wr).drew.alloc Lr _) | exact ((Br wr).alloc Lr _).drew)).mono ?_);rintro en w5 ⟨rfl,ai⟩;have aQ:Below wr.heap.size wr w5:=(by first | exact (Br wr).drew.trans ai | exact ((Br wr).drew.alloc Lr _).trans (ai.mono Sm) | exact (((Br wr).alloc Lr _).drew).trans (ai.mono (by show _<=(wr.alloc _).heap.size;simp)));have aE:=(aQ.cell (p:=⟨w.heap.size,_,none⟩) z0).trans b0;have jP:∀ ob,(w5.alloc ob).cell? ⟨w.heap.size,0,none⟩=some (tv):=(fun ob=>(((Below.refl w5.heap.size w5).alloc Lr ob).cell (p:=⟨w.heap.size,_,none⟩) (Nat.lt_of_lt_of_le z0 aQ.size)).trans aE);have au:=(aQ.cell (p:=⟨w.heap.size,_,none⟩) z0).trans b1;have jQ:∀ ob,(w5.alloc ob).cell? ⟨w.heap.size,1,none⟩=some (cv):=(fun ob=>(((Below.refl w5.heap.size w5).alloc Lr ob).cell (p:=⟨w.heap.size,_,none⟩) (Nat.lt_of_lt_of_le z0 aQ.size)).trans au);have ef:=(aQ.cell (p:=⟨w.heap.size+1,_,none⟩) z1).trans d1;have qr:∀ ob,(w5.alloc ob).cell? ⟨w.heap.size+1,1,none⟩=some (.slice (some ⟨g,o,none⟩) n c):=(fun ob=>(((Below.refl w5.heap.size w5).alloc Lr ob).cell (p:=⟨w.heap.size+1,_,none⟩) (Nat.lt_of_lt_of_le z1 aQ.size)).trans ef);have cg:=(aQ.cell (p:=⟨g,_,none⟩) zg).trans e0;have kW:∀ ob,(w5.alloc ob).cell? ⟨g,o+i*2,none⟩=some (.string ⟨nm.toArray⟩):=(fun ob=>(((Below.refl w5.heap.size w5).alloc Lr ob).cell (p:=⟨g,_,none⟩) (Nat.lt_of_lt_of_le zg aQ.size)).trans cg);have c7:=Hy aQ;try (have aw:w5.heap[wr.heap.size]?=some (.cells #[.string ⟨#[]⟩,.int .i64 0,.bool false] 69 (0,0)):=(by first | exact zj (heap_alloc_new wr.drew _) ai Sm | exact zj (w:=(wr.alloc _).drew) (heap_alloc_new wr _) ai (by show _<(wr.alloc _).heap.size;simp));have b0_:=zq aw 0 _ rfl;have f0_:=zc aw 0;have b1_:=zq aw 1 _ rfl;have f1_:=zc aw 1;have b2_:=zq aw 2 _ rfl;have f2_:=zc aw 2;have bY:=Hy aw;clear aw);clear ai aQ))
    all_goals
     first
      | (obtain ⟨W7,aT⟩:=Ex (((w5.setCell ⟨wr.heap.size,0,none⟩ (.string ⟨tn.toArray⟩)).setCell ⟨wr.heap.size,1,none⟩ (.int .i64 tr)).setCell ⟨wr.heap.size,2,none⟩ (.bool ts));have aD:W7.heap[wr.heap.size]?=some (.cells #[.string ⟨tn.toArray⟩,.int .i64 tr,.bool ts] 69 (0,0)):=(by rw [<- aT];exact zbR bY.o _ _ _);have aR:Below wr.heap.size wr W7:=(by rw [<- aT];exact zbV c7.o Lr _ _ _);rw [aT];obtain ⟨bx,dC⟩:=Ex wr.heap.size;have mT:=Hy (show wr.heap.size<=bx by have:=c7.o.size;omega);rw [dC] at aD ⊢;have H7:=Hy (An aD aR);clear aD aR aT dC)
      | (obtain ⟨W7,aT⟩:=Ex (w5.alloc (.cells #[.string ⟨tn.toArray⟩,.int .i64 tr,.bool ts] 69));have aD:W7.heap[w5.heap.size]?=some (.cells #[.string ⟨tn.toArray⟩,.int .i64 tr,.bool ts] 69 (0,0)):=(by rw [<- aT];exact heap_alloc_new w5 _);have aR:Below wr.heap.size wr W7:=(by rw [<- aT];exact c7.o.alloc c7.o.size _);rw [aT];obtain ⟨bx,dC⟩:=Ex w5.heap.size;have mT:=Hy (show wr.heap.size<=bx by have:=c7.o.size;omega);rw [dC] at aD ⊢;have H7:=Hy (An aD aR);clear aD aR aT dC)
    all_goals
     try clear aE au ef cg
     try clear jP jQ qr kW
     try clear kh ki pF kj
     try clear b0_ f0_
     try clear b1_ f1_
     try clear b2_ f2_
     try clear bY
     try clear c7
    all_goals
     have HB:=Hy (HI.o.1.trans (H7.o.2.mono Om))
     try clear b0 b1 d1 e0
     go_wp2
     exact ⟨⟨i+1,by omega,by go_num,HB.o,HN.o⟩,by simp [intOf];omega⟩
  obtain rfl:i=n:=by omega
  have du:=Hy (zBj (T:=T) (A:=A) (fun j hj=>af j hj (by rw [<- HL.o];exact hj)))
  have bw:=Hy hb
  clear hb x0 x1 aq af
  go_wp2
  clear b0 b1 d0 d1
  go_loopw [8] (fun v wz=>∃ k:Nat,k<=i/\v=.int .i64 (k:Nat)/\Below (w.heap.size+2) W1 wz/\∀ j (h1:j<A.length),j<k->A[j].2.length≠0) (fun v _=>i - (intOf v).toNat)
  case atStart=>exact ⟨0,by omega,rfl,bw.o,fun j _ h=>by omega⟩
  case round =>
   obtain ⟨k,hk,rfl,hb,aH⟩:=hrel
   have cQ:=hb.size
   have x1:=zj HX.o.2.1 hb Om
   have aq:=HX.o.2.2.1.trans (hb.mono Om)
   obtain ⟨d0,d1⟩:=zf x1
   by_cases cZ:k<i
   ·have bh:(k:Int)<(i:Int):=by omega
    have aO:k<A.length:=by rw [HL.o];exact cZ
    obtain ⟨g,o,vl,rfl,hg,aU,aP,dt⟩:=HM.o k aO
    obtain ⟨va,vc,rfl,ju⟩:=dt
    have e1:=(aq.cell (p:=⟨g,_,none⟩) hg).trans aP
    have gT:=Hy (fun (hx:A[k].2.length≠0) j (h1:j<A.length) (h:j<k+1)=>(show A[j].2.length≠0 by
     by_cases e:j=k
     ·subst e;exact hx
     exact aH j h1 Om))
    have pD:=Hy (fun h=>zqE (A:=A) k aO h)
    obtain ⟨m,hm⟩:=Ex (A[k].2.length)
    have dp:=Hy hm
    rw [hm] at e1 pD
    have HI:=Hy (An hb aq)
    clear hb x1 aq ju aU aP hm aH
    by_cases BT:m=0
    ·subst BT
     have HR:=Hy (show R=19 from Dt.o du.o (pD.o rfl))
     go_wp2
     go_ret
     exact zaV (by rw [HR.o];rfl) HI.o.2
    have hmi:((m:Int)==0)=false:=by rw [beq_eq_false_iff_ne];omega
    have HN:=Hy (gT.o (by rw [dp.o];exact BT))
    clear BT
    go_wp2
    exact ⟨⟨k+1,by omega,by go_num,HI.o.1,HN.o⟩,by simp [intOf];omega⟩
   obtain rfl:k=i:=by omega
   have Dw:=Hy (zBk (A:=A) (fun j hj=>aH j hj (by rw [<- HL.o];exact hj)))
   have cx:=Hy hb
   clear hb x1 aq aH
   go_wp2
   clear d0 d1
   go_loopw [9] (fun v wz=>∃ i:Nat,i<=k/\v=.int .i64 (i:Nat)/\Below (w.heap.size+2) W1 wz/\∀ p (h1:p<A.length) q (hq:q<A[p].2.length),p<i->(ruN (tyG T A[p]).2.1 A[p].2[q]).2=true) (fun v _=>k - (intOf v).toNat)
   case atStart=>exact ⟨0,by omega,rfl,cx.o,fun p _ _ _ h=>by omega⟩
   case round =>
    obtain ⟨i,hi,rfl,hb,dJ⟩:=hrel
    have cQ:=hb.size
    have x0:=zj HX.o.1 hb Om
    have x1:=zj HX.o.2.1 hb Om
    have aq:=HX.o.2.2.1.trans (hb.mono Om)
    obtain ⟨b0,b1⟩:=zf x0
    obtain ⟨d0,d1⟩:=zf x1
    have z0:=zi x0
    have z1:=zi x1
    by_cases aj:i<k
    ·have cW:(i:Int)<(k:Int):=by omega
     have cJ:i<A.length:=by rw [HL.o];exact aj
     obtain ⟨g,o,vl,rfl,hg,aU,aP,dt⟩:=HM.o i cJ
     obtain ⟨va,vc,rfl,ju⟩:=dt
     have sO:=Hy ju
     have e0:=(aq.cell (p:=⟨g,_,none⟩) hg).trans aU
     have zg:=Nat.lt_of_lt_of_le hg aq.size
     have aY:=HV.o _ (List.getElem_mem cJ)
     have pG:=Hy (show scT T A[i].1=some (tyG T A[i]) by
      have:=List.all_eq_true.1 du.o _ (List.getElem_mem cJ)
      obtain ⟨t,ht⟩:=Option.isSome_iff_exists.1 this
      simp [tyG,ht])
     have gI:=Hy (fun q (hq:q<A[i].2.length) (h:(ruN (tyG T A[i]).2.1 A[i].2[q]).2=false)=>(show R=21 from Du.o du.o Dw.o (zkE (TL:=A.map (tyG T)) (A:=A) i (by simpa using cJ) cJ q hq (by simpa using h))))
     have gT:=Hy (fun (hx:∀ q (hq:q<A[i].2.length),(ruN (tyG T A[i]).2.1 A[i].2[q]).2=true) p (h1:p<A.length) q (hq:q<A[p].2.length) (h:p<i+1)=>(show (ruN (tyG T A[p]).2.1 A[p].2[q]).2=true by
      by_cases e:p=i
      ·subst e;exact hx q hq
      exact dJ p h1 q hq Om))
     obtain ⟨m,hm⟩:=Ex (A[i].2.length)
     have dp:=Hy hm
     rw [hm] at aP aY
     obtain ⟨nm,aJ⟩:=Ex (A[i].1)
     rw [aJ] at e0 aY pG
     obtain ⟨⟨tn,tr,ts⟩,gJ⟩:∃ t,tyG T A[i]=t:=⟨_,rfl⟩
     rw [gJ] at pG gI gT
     have hT:=fun w' (co:Below wr.heap.size wr w')=>fF.o w' (aq.trans (co.mono aq.size)) nm aY.1
     rw [pG.o] at hT
     have HT:=Hy (fun w' (co:Below wr.heap.size wr w')=>(show Calls prog 87 #[.agg #[tv,cv],.string ⟨nm.toArray⟩] w' (fun en w''=>en=.returned (.tuple #[.agg #[.string ⟨tn.toArray⟩,.int .i64 tr,.bool ts],.bool true])/\Below w'.heap.size w' w'') from hT w' co))
     have kg:=aY.2
     have pC:=Hy aP
     have HI:=Hy (An hb (An aq x1))
     clear hb x0 x1 aq ju aU aP hm aJ gJ hT aY dJ
     have kh:∀ ob,(wr.drew.alloc ob).cell? ⟨w.heap.size,0,none⟩=some (tv):=fun ob=>(((Below.refl wr.drew.heap.size wr.drew).alloc Lr ob).cell (p:=⟨w.heap.size,_,none⟩) z0).trans b0
     have ki:∀ ob,(wr.drew.alloc ob).cell? ⟨w.heap.size,1,none⟩=some (cv):=fun ob=>(((Below.refl wr.drew.heap.size wr.drew).alloc Lr ob).cell (p:=⟨w.heap.size,_,none⟩) z0).trans b1
     have pF:∀ ob,(wr.drew.alloc ob).cell? ⟨w.heap.size+1,1,none⟩=some (.slice (some ⟨g,o,none⟩) k c):=fun ob=>(((Below.refl wr.drew.heap.size wr.drew).alloc Lr ob).cell (p:=⟨w.heap.size+1,_,none⟩) z1).trans d1
     have kj:∀ ob,(wr.drew.alloc ob).cell? ⟨g,o+i*2,none⟩=some (.string ⟨nm.toArray⟩):=fun ob=>(((Below.refl wr.drew.heap.size wr.drew).alloc Lr ob).cell (p:=⟨g,_,none⟩) zg).trans e0
     have ng:g≠wr.heap.size:=Nat.ne_of_lt zg
     have nwheapsize:w.heap.size≠wr.heap.size:=Nat.ne_of_lt z0
     have nwheapsize1:w.heap.size+1≠wr.heap.size:=Nat.ne_of_lt z1
     go_wp2_with fail
     go_region_held3 (fun w'=>w'.cell? ⟨w.heap.size,0,none⟩=some (tv)/\w'.cell? ⟨w.heap.size,1,none⟩=some (cv)/\w'.cell? ⟨w.heap.size+1,1,none⟩=some (.slice (some ⟨g,o,none⟩) k c)/\w'.cell? ⟨g,o+i*2,none⟩=some (.string ⟨nm.toArray⟩)) (first | exact ⟨aE,au,ef,cg⟩ | exact ⟨b0,b1,d1,e0⟩ | exact ⟨(jP _),(jQ _),(qr _),(kW _)⟩ | exact ⟨(kh _),(ki _),(pF _),(kj _)⟩ | exact ⟨((zY nwheapsize _ _ _ _ _ _ _).trans aE),((zY nwheapsize _ _ _ _ _ _ _).trans au),((zY nwheapsize1 _ _ _ _ _ _ _).trans ef),((zY ng _ _ _ _ _ _ _).trans cg)⟩ | go_keep)
      (first | (go_at_call 87;(with_reducible refine (HT.o _ (by first | exact (Br wr).drew | exact ((Br wr).drew.alloc Lr _) | exact ((Br wr).alloc Lr _).drew)).mono ?_);rintro en w5 ⟨rfl,ai⟩;have aQ:Below wr.heap.size wr w5:=(by first | exact (Br wr).drew.trans ai | exact ((Br wr).drew.alloc Lr _).trans (ai.mono Sm) | exact (((Br wr).alloc Lr _).drew).trans (ai.mono (by show _<=(wr.alloc _).heap.size;simp)));have aE:=(aQ.cell (p:=⟨w.heap.size,_,none⟩) z0).trans b0;have jP:∀ ob,(w5.alloc ob).cell? ⟨w.heap.size,0,none⟩=some (tv):=(fun ob=>(((Below.refl w5.heap.size w5).alloc Lr ob).cell (p:=⟨w.heap.size,_,none⟩) (Nat.lt_of_lt_of_le z0 aQ.size)).trans aE);have au:=(aQ.cell (p:=⟨w.heap.size,_,none⟩) z0).trans b1;have jQ:∀ ob,(w5.alloc ob).cell? ⟨w.heap.size,1,none⟩=some (cv):=(fun ob=>(((Below.refl w5.heap.size w5).alloc Lr ob).cell (p:=⟨w.heap.size,_,none⟩) (Nat.lt_of_lt_of_le z0 aQ.size)).trans au);have ef:=(aQ.cell (p:=⟨w.heap.size+1,_,none⟩) z1).trans d1;have qr:∀ ob,(w5.alloc ob).cell? ⟨w.heap.size+1,1,none⟩=some (.slice (some ⟨g,o,none⟩) k c):=(fun ob=>(((Below.refl w5.heap.size w5).alloc Lr ob).cell (p:=⟨w.heap.size+1,_,none⟩) (Nat.lt_of_lt_of_le z1 aQ.size)).trans ef);have cg:=(aQ.cell (p:=⟨g,_,none⟩) zg).trans e0;have kW:∀ ob,(w5.alloc ob).cell? ⟨g,o+i*2,none⟩=some (.string ⟨nm.toArray⟩):=(fun ob=>(((Below.refl w5.heap.size w5).alloc Lr ob).cell (p:=⟨g,_,none⟩) (Nat.lt_of_lt_of_le zg aQ.size)).trans cg);have c7:=Hy aQ;try (have aw:w5.heap[wr.heap.size]?=some (.cells #[.string ⟨#[]⟩,.int .i64 0,.bool false] 69 (0,0)):=(by first | exact zj (heap_alloc_new wr.drew _) ai Sm | exact zj (w:=(wr.alloc _).drew) (heap_alloc_new wr _) ai (by show _<(wr.alloc _).heap.size;simp));have b0_:=zq aw 0 _ rfl;have f0_:=zc aw 0;have b1_:=zq aw 1 _ rfl;have f1_:=zc aw 1;have b2_:=zq aw 2 _ rfl;have f2_:=zc aw 2;have bY:=Hy aw;clear aw);clear ai aQ))
     all_goals
      first
       | (obtain ⟨W7,aT⟩:=Ex (((w5.setCell ⟨wr.heap.size,0,none⟩ (.string ⟨tn.toArray⟩)).setCell ⟨wr.heap.size,1,none⟩ (.int .i64 tr)).setCell ⟨wr.heap.size,2,none⟩ (.bool ts));have aD:W7.heap[wr.heap.size]?=some (.cells #[.string ⟨tn.toArray⟩,.int .i64 tr,.bool ts] 69 (0,0)):=(by rw [<- aT];exact zbR bY.o _ _ _);have aR:Below wr.heap.size wr W7:=(by rw [<- aT];exact zbV c7.o Lr _ _ _);rw [aT];obtain ⟨bx,dC⟩:=Ex wr.heap.size;have mT:=Hy (show wr.heap.size<=bx by have:=c7.o.size;omega);rw [dC] at aD ⊢;have H7:=Hy (An aD aR);clear aD aR aT dC)
       | (obtain ⟨W7,aT⟩:=Ex (w5.alloc (.cells #[.string ⟨tn.toArray⟩,.int .i64 tr,.bool ts] 69));have aD:W7.heap[w5.heap.size]?=some (.cells #[.string ⟨tn.toArray⟩,.int .i64 tr,.bool ts] 69 (0,0)):=(by rw [<- aT];exact heap_alloc_new w5 _);have aR:Below wr.heap.size wr W7:=(by rw [<- aT];exact c7.o.alloc c7.o.size _);rw [aT];obtain ⟨bx,dC⟩:=Ex w5.heap.size;have mT:=Hy (show wr.heap.size<=bx by have:=c7.o.size;omega);rw [dC] at aD ⊢;have H7:=Hy (An aD aR);clear aD aR aT dC)
     all_goals
      try clear aE au ef cg
      try clear jP jQ qr kW
      try clear kh ki pF kj
      try clear b0_ f0_
      try clear b1_ f1_
      try clear b2_ f2_
      try clear bY
      try clear c7
     all_goals
      have aR:=HI.o.1.trans (H7.o.2.mono Om)
      have j7:=Hy (An aR (zj HI.o.2.2 H7.o.2 z1))
      have Dn:=aR.size
      have NN:=Hy (zi H7.o.1)
      clear aR
      try clear b0 b1 d1 e0
      go_wp2
      go_loopw [12] (fun v wz=>∃ j:Nat,j<=m/\v=.int .i64 (j:Nat)/\Below W7.heap.size W7 wz/\∀ q (hq:q<A[i].2.length),q<j->(ruN tr A[i].2[q]).2=true) (fun v _=>m - (intOf v).toNat)
      case atStart=>exact ⟨0,by omega,rfl,Br _,fun q _ h=>by omega⟩
      case round =>
       obtain ⟨j,hj,rfl,dm,mC⟩:=hrel
       have y1:=Ob j7.o.2 dm
       obtain ⟨JM,xH⟩:=zf y1
       have jv:Below w.heap.size w wr:=(HX.o.2.2.1.trans (j7.o.1.mono Om)).trans (dm.mono Om)
       have e1:=(jv.cell (p:=⟨g,_,none⟩) hg).trans pC.o
       have lG:=Hy (An dm jv)
       by_cases jq:j<m
       ·have lT:(j:Int)<(m:Int):=by omega
        have Do:j<A[i].2.length:=by rw [dp.o];exact jq
        obtain ⟨g3,o3,rfl,fq,lD⟩:=sO.o j Do
        have v0:=(jv.cell (p:=⟨g3,_,none⟩) fq).trans lD
        obtain ⟨c0,c1,c2⟩:=ze (zj H7.o.1 dm NN.o)
        have NO:=Hy (gI.o j Do)
        have HNj:=Hy (fun (hx:(ruN tr A[i].2[j]).2=true) q (hq:q<A[i].2.length) (h:q<j+1)=>(show (ruN tr A[i].2[q]).2=true by
         by_cases e:q=j
         ·subst e;exact hx
         exact mC q hq Om))
        obtain ⟨x,hx⟩:=Ex (A[i].2[j])
        rw [hx] at v0 NO
        have sP:=Hy hx
        have Fd:=Nat.lt_of_lt_of_le fq jv.size
        have zgg:=Nat.lt_of_lt_of_le hg jv.size
        have zE:=zi y1
        have zbx:bx<wr.heap.size:=Nat.lt_of_lt_of_le NN.o dm.size
        have JO:=fun w'=>zkg tr x w'
        obtain ⟨⟨X,ok⟩,hX⟩:∃ p,ruN tr x=p:=⟨_,rfl⟩
        simp only [hX] at JO
        have mj:=Hy JO
        have NP:=Hy hX
        clear dm jv mC lD hx hX JO y1
        cases ok with
        | false =>
         have HR:=Hy (NO.o (by show (ruN tr x).2=false;rw [NP.o]))
         go_wp2_with fail
         go_region_held3 (fun w'=>w'.cell? ⟨bx,1,none⟩=some (.int .i64 tr)/\w'.cell? ⟨w.heap.size+1,1,none⟩=some (.slice (some ⟨g,o,none⟩) k c)/\w'.cell? ⟨g,o+i*2+1,none⟩=some (.slice (some ⟨g3,o3,none⟩) m vc)/\w'.cell? ⟨g3,o3+j,none⟩=some (.string ⟨x.toArray⟩)) (first | exact ⟨eX,rE,dK,k7⟩ | exact ⟨c1,xH,e1,v0⟩ | go_keep)
          (first | (go_at_call 118;(with_reducible refine (mj.o _).mono ?_);rintro en w9 ⟨rfl,bv⟩;have aQ:Below wr.heap.size wr w9:=(Br wr).drew.trans bv;have eX:=(aQ.cell (p:=⟨bx,_,none⟩) zbx).trans c1;have rE:=(aQ.cell (p:=⟨w.heap.size+1,_,none⟩) zE).trans xH;have dK:=(aQ.cell (p:=⟨g,_,none⟩) zgg).trans e1;have k7:=(aQ.cell (p:=⟨g3,_,none⟩) Fd).trans v0;clear bv))
         have eM:=Hy (lG.o.2.trans (aQ.mono lG.o.2.size))
         clear aQ eX rE dK k7 v0 c0 c1 c2 JM xH e1
         go_wp2
         go_ret
         exact zaV (by rw [HR.o];rfl) eM.o
        | true =>
         have HN:=Hy (HNj.o (by rw [sP.o,NP.o]))
         go_wp2_with fail
         go_region_held3 (fun w'=>w'.cell? ⟨bx,1,none⟩=some (.int .i64 tr)/\w'.cell? ⟨w.heap.size+1,1,none⟩=some (.slice (some ⟨g,o,none⟩) k c)/\w'.cell? ⟨g,o+i*2+1,none⟩=some (.slice (some ⟨g3,o3,none⟩) m vc)/\w'.cell? ⟨g3,o3+j,none⟩=some (.string ⟨x.toArray⟩)) (first | exact ⟨eX,rE,dK,k7⟩ | exact ⟨c1,xH,e1,v0⟩ | go_keep)
          (first | (go_at_call 118;(with_reducible refine (mj.o _).mono ?_);rintro en w9 ⟨rfl,bv⟩;have aQ:Below wr.heap.size wr w9:=(Br wr).drew.trans bv;have eX:=(aQ.cell (p:=⟨bx,_,none⟩) zbx).trans c1;have rE:=(aQ.cell (p:=⟨w.heap.size+1,_,none⟩) zE).trans xH;have dK:=(aQ.cell (p:=⟨g,_,none⟩) zgg).trans e1;have k7:=(aQ.cell (p:=⟨g3,_,none⟩) Fd).trans v0;clear bv))
         have eM:=Hy (lG.o.1.trans (aQ.mono lG.o.1.size))
         clear aQ eX rE dK k7 v0 c0 c1 c2 JM xH e1
         go_wp2
         exact ⟨⟨j+1,by omega,by go_num,eM.o,HN.o⟩,by simp [intOf];omega⟩
       obtain rfl:j=m:=by omega
       have HN:=Hy (gT.o (fun q hq=>mC q hq (by rw [<- dp.o];exact hq)))
       have HBn:=Hy (j7.o.1.trans (dm.mono Om))
       clear dm jv mC y1
       go_wp2
       exact ⟨⟨i+1,by omega,by go_num,HBn.o,HN.o⟩,by simp [intOf];omega⟩
    obtain rfl:i=k:=by omega
    have aS:zbM (A.map (tyG T)) A=true:=zrf (fun p h1 h2 q hq=>by
     have:=dJ p h2 q hq (by rw [<- HL.o];exact h2)
     simpa using this)
    have HC:=Hy (NM.o wr aq du.o aS)
    have HR:=Hy (Dv.o du.o Dw.o aS)
    have iT:=Hy aq
    clear hb x0 x1 aq dJ aS
    go_wp2_with fail
    refine HC.o.mono ?_
    rintro en w9 ⟨rfl,bv⟩
    have eM:=Hy (iT.o.trans (bv.mono iT.o.size))
    clear bv
    go_wp2
    go_ret
    exact zaV (by rw [HR.o]) eM.o
end Go.Proofs.YtijglbolppkefaaGreatDoor
