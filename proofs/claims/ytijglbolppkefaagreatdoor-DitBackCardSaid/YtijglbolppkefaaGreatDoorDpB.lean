/- A drawn region's slots; the. -/
import Derived.Test.YtijglbolppkefaaGreatDoorDpA
set_option linter.unusedVariables false
set_option linter.unusedSimpArgs false
set_option maxHeartbeats 25600000
set_option maxRecDepth 100000
namespace Go.Proofs.YtijglbolppkefaaGreatDoor
open Go.Proofs.Tryz
open Go Go.RowKit Go.Proofs.BerK Go.Proofs.MemK Go.Proofs.UtfK Go.Proofs.RegK Go.Maps Go.WideMaps
theorem zaX {p:Prop} (h:p:=by
 simp only [Sg] at hK ⊢
 go_simp
 exact hK _ _ rfl (Br _)):p:=h
theorem zkO {p:Prop} (h:p:=by
 simp only [Sg] at hK ⊢
 go_simp
 with_reducible refine HC.o.mono ?_
 rintro en w6 ⟨rfl,az⟩
 go_simp
 exact hK _ _ rfl az):p:=h
theorem zK {ops:Array Oper} {o oj:Oper} {tmps:Array Value} {j d:Nat} {b:Bool} (hg:o.guard=some (j,b)) (hj:ops[j]?=some oj) (hd:oj.dst=some d) (hv:tmps[d]?.getD undef=.bool b):Region.wanted o (yielded ops tmps)=true:=by
 have h:tmps[d]?=some (.bool b):=by
  cases h:tmps[d]? with
  | none=>rw [h] at hv;cases hv
  | some v=>rw [h] at hv;exact congrArg some hv
 unfold Region.wanted yielded
 rw [hg]
 simp [hj,hd,h]
def exG (es:List Nat) (P:Nat->Value->World->Prop) (l:List Value) (j:Nat) (v:Value) (w:World):Prop:=cond (es.contains j) (P j v w) (v=l.getD j undef)
theorem ze8 {es:List Nat} {P:Nat->Value->World->Prop} {l:List Value} {T:World->World->Prop} (h:∀ j v w w',P j v w->T w w'->P j v w'):∀ j v w w',exG es P l j v w->T w w'->exG es P l j v w':=by
 intro j v w w' h1 h2
 unfold exG at h1 ⊢
 cases hj:es.contains j with
 | true=>rw [hj] at h1;exact h _ _ _ _ h1 h2
 | false=>rw [hj] at h1;exact h1
def txP (X:List (Bs)) (n:Nat) (_:Nat) (v:Value) (w:World):Prop:=∃ b k,v=.slice b n k/\TxR w (.slice b n k) X
theorem zkP (X:List (Bs)) (n:Nat):∀ (j:Nat) (v:Value) (w w':World),txP X n j v w->Below w.heap.size w w'->txP X n j v w':=by
 rintro j v w w' ⟨b,k,e,h⟩ hb
 exact ⟨b,k,e,zA h hb⟩
theorem zh2 (w1:World) (sb g:Nat) (S0:Nat->Prop) (L:List Ent) (B:Nat) (tn tc cn cc:Nat) (sa sc':Option Addr) (lv:Value) (w:World) (ht:TIn w1 w sb g S0 L) (hE:zN w B lv L) (aW:∀ e∈L,e.2.length<=100000/\∀ a∈e.2,a.2.length<=1000000) :
  Calls prog 12 #[.pointer (some ⟨g,0,none⟩),.agg #[.slice sa tn tc,.slice sc' cn cc,lv]] w (BB true w):=by
 obtain ⟨la,lc,rfl⟩:=za8 hE
 have hl:L.length<=1024:=ht.2.2.2
 have hT:=ht.2.2.1
 obtain ⟨W0,aN⟩:=Ex (w.alloc (.cells #[.slice sa tn tc,.slice sc' cn cc,.slice la L.length lc] 35))
 have aE:=Nb aN
 have y0:=Nw aN
 have HT:=Hy (fun w' (hb:Below w.heap.size w w')=>zJ ht hb)
 have HE:=Hy (fun w' (hb:Below w.heap.size w w')=>zT hE hb)
 have pQ:=Hy hT
 have Fv:=Hy (zna _ g _ S0 L W0 (zJ ht aE).1 hT hl)
 have iV:=Hy (fun w' (hb:Below w.heap.size w w')=>zrF B tn tc cn cc sa sc' (.slice la L.length lc) L w' (zT hE hb) Om)
 rw [<- zkN hT,show zb7 L []=L.map (·.1) by unfold zb7;rw [if_pos rfl]] at iV
 have Eh:=Hy (fun i (hi:i<L.length) w' (hb:Below w.heap.size w w')=>show Calls prog 17 #[.pointer (some ⟨g,0,none⟩),.string ⟨L[i].1.toArray⟩] w' (zjH (some L[i]) w') from by
  have hn:=zbP (hT.nm _ (List.getElem_mem hi))
  obtain ⟨D,hD⟩:=hn
  have:=zjI _ g _ S0 L L[i].1 w' (zJ ht hb).1 (by have:=ziW hD;omega) aW
  rwa [zgx hT.up (List.getElem_mem hi)] at this)
 have HSz:=Hy (fun i (hi:i<L.length)=>aW _ (List.getElem_mem hi))
 obtain ⟨X,hX⟩:=Ex (L.map (·.1))
 rw [hX] at Fv iV
 have Kq:∀ i (h1:i<L.length) (h2:i<X.length),X[i]=L[i].1:=fun i h1 h2=>by subst hX;simp
 have Fw:X.length=L.length:=by rw [<- hX];simp
 obtain ⟨n,hn⟩:=Ex L.length
 have HN:=Hy hn
 have tm:=Hy (fun w' (hb:Below w.heap.size w w')=>zge _ g _ S0 L w' (zJ ht hb).1)
 rw [hn] at hl y0 aN HE iV tm Fw ⊢
 have wh:=Hy Fw
 have HXi:=Hy Kq
 have HW:=Hy aN
 have HY:=Hy (An y0 aE)
 clear ht hE aW hT aE aN hX Kq Fw hn y0
 go_enter func12,ntmps12
 go_wp2_with fail
 try rw [HW.o]
 with_reducible refine Fv.o.mono ?_
 rintro en w2 ⟨nv,rfl,rM,ak⟩
 have tx:=zaL rM
 obtain ⟨na,nc,rfl⟩:=zh rM
 rw [wh.o] at rM tx ⊢
 have lN:=HY.o.2.trans (ak.mono HY.o.2.size)
 have y2:=Ob HY.o.1 ak
 have rN:=Hy (fun w' b k (hv:TxR w' (.slice b n k) X) (hb:Below w2.heap.size w2 w')=>show Calls prog 13 #[.slice na n nc,.slice b n k] w' (BB true w') from by
  have h1:X.length<=1000000:=by rw [wh.o];omega
  have:=zhI X X (.slice na n nc) (.slice b n k) w' (zA tx hb) hv h1 h1
  rwa [decide_eq_true (rfl:X=X)] at this)
 have iq:=Hy (fun w' (hb:Below w2.heap.size w2 w')=>iV.o w' (lN.trans (hb.mono lN.size)))
 have iW:=Hy (fun w' (hb:Below w2.heap.size w2 w')=>tm.o w' (lN.trans (hb.mono lN.size)))
 have HB:=Hy (fun wa (aq:Below w2.drew.heap.size w2.drew wa)=>show (wa.cell? ⟨w.heap.size,0,none⟩=some (.slice sa tn tc)/\wa.cell? ⟨w.heap.size,1,none⟩=some (.slice sc' cn cc)/\wa.cell? ⟨w.heap.size,2,none⟩=some (.slice la n lc))/\Below w2.heap.size w2 wa from by
  have hw:=(Br w2).drew.trans aq
  exact ⟨ze (Ob y2 hw),hw⟩)
 obtain ⟨xa,xc,dK,xV⟩:=tx
 injection dK with e1 e2 e3
 subst e1 e3
 have H2:=Hy (An y2 (An lN xV))
 clear rM ak lN y2 Fv iV tm xV e2
 go_wp2_with fail
 refine wp_region_noPanic ?_
 refine wp_region_held_drew (S:=fun _=>True) Kr trivial (fun _=>?_)
 refine zfJ (f:=13) (A:=fun j=>decide (j<13)) (D:=[11,12,13,14,15,16,17,18,19,20,21,22,23]) (G:=exG [2] (txP X n) [.slice na n nc,.agg #[.slice sa tn tc,.slice sc' cn cc,.slice la n lc],undef,.bool true,.bool false,.bool false,.pointer (some ⟨g,0,none⟩),.int .i64 (n:Nat),.pointer (some ⟨w.heap.size,2,none⟩),.slice la n lc,.int .i64 (n:Nat),.bool false,.bool false]) (LIT:=#[true,true,true,true,true,true,true,true,true,true,true,true,true]) (r:=0) Kr Kr (fun h=>absurd h Dk) (fun h=>absurd h Dk) Kr (fun h=>absurd h Dk) (fun h=>absurd h Dk) Kr (fun j v w w' h _ hb=>ze8 (T:=fun w w'=>Below w.heap.size w w') (zkP X n) j v w w' h hb) (fun _ _ _ _ _ h=>h) ?op (fun h=>absurd h Dk) ?rest
 case op =>
  intro i' cG hA a wa aq aC ah
  have dr:i'<13:=by simpa using hA
  have aD:=HB.o _ aq
  rcases (show i'=0\/i'=1\/i'=2\/i'=3\/i'=4\/i'=5\/i'=6\/i'=7\/i'=8\/i'=9\/i'=10\/i'=11\/i'=12 by omega) with rfl | rfl | rfl | rfl | rfl | rfl | rfl | rfl | rfl | rfl | rfl | rfl | rfl
  ·have e8:a.eval (.tmp 5)=.slice na n nc:=aC 5 rfl
   have gX:=Gd e8
   refine ⟨rfl,fun K hK=>?_⟩
   exact zaX
  ·have gO:a.eval (.tmp 3)=.pointer (some ⟨w.heap.size,0,none⟩):=aC 3 rfl
   have km:=Gd gO
   obtain ⟨c0,c1,c2⟩:=aD.1
   refine ⟨rfl,fun K hK=>?_⟩
   exact zaX
  ·have tp:a.eval (.tmp 12)=.agg #[.slice sa tn tc,.slice sc' cn cc,.slice la n lc]:=ah 1 12 De Kr rfl
   have xW:=Gd tp
   have HC:=Hy (iq.o wa aD.2)
   refine ⟨rfl,fun K hK=>?_⟩
   simp only [Sg] at hK ⊢
   go_simp
   with_reducible refine HC.o.mono ?_
   rintro en w6 ⟨nv,rfl,ab,az⟩
   have eK:=zaL ab
   rw [wh.o] at ab
   obtain ⟨pb,pk,rfl⟩:=zh ab
   have HZ:=Hy eK
   clear ab eK
   go_simp
   exact hK _ _ ⟨_,_,rfl,HZ.o⟩ az
  ·have mZ:a.eval (.tmp 11)=.slice na n nc:=ah 0 11 De Kr rfl
   have rO:=Gd mZ
   obtain ⟨pb,pk,e,dg⟩:=ah 2 13 De Kr rfl
   have tq:a.eval (.tmp 13)=_:=e
   have xX:=Gd tq
   have HZ:=Hy dg
   clear dg
   have HC:=Hy (rN.o wa _ _ HZ.o aD.2)
   refine ⟨rfl,fun K hK=>?_⟩
   exact zkO
  ·have Fx:a.eval (.tmp 14)=.bool true:=ah 3 14 De Kr rfl
   have Ks:=Gd Fx
   refine ⟨rfl,fun K hK=>?_⟩
   exact zaX
  ·have Fy:a.eval (.tmp 15)=.bool false:=ah 4 15 De Kr rfl
   have Kt:=Gd Fy
   refine ⟨rfl,fun K hK=>?_⟩
   exact zaX
  ·have ip:a.eval (.tmp 0)=.pointer (some ⟨g,0,none⟩):=aC 0 rfl
   have m7:=Gd ip
   have fj:a.eval (.tmp 16)=.bool false:=ah 5 16 De Kr rfl
   have dz:=Gd fj
   refine ⟨zK rfl rfl rfl dz,fun K hK=>?_⟩
   exact zaX
  ·have Fz:a.eval (.tmp 17)=.pointer (some ⟨g,0,none⟩):=ah 6 17 De Kr rfl
   have Ku:=Gd Fz
   have fj:a.eval (.tmp 16)=.bool false:=ah 5 16 De Kr rfl
   have dz:=Gd fj
   have HC:=Hy (iW.o wa aD.2)
   refine ⟨zK rfl rfl rfl dz,fun K hK=>?_⟩
   simp only [Sg] at hK ⊢
   go_simp
   with_reducible refine HC.o.mono ?_
   rintro en w6 ⟨rfl,rfl⟩
   go_simp
   exact hK _ _ rfl (Br _)
  ·have gO:a.eval (.tmp 3)=.pointer (some ⟨w.heap.size,0,none⟩):=aC 3 rfl
   have km:=Gd gO
   have fj:a.eval (.tmp 16)=.bool false:=ah 5 16 De Kr rfl
   have dz:=Gd fj
   refine ⟨zK rfl rfl rfl dz,fun K hK=>?_⟩
   exact zaX
  ·have FA:a.eval (.tmp 19)=.pointer (some ⟨w.heap.size,2,none⟩):=ah 8 19 De Kr rfl
   have Kv:=Gd FA
   have fj:a.eval (.tmp 16)=.bool false:=ah 5 16 De Kr rfl
   have dz:=Gd fj
   obtain ⟨c0,c1,c2⟩:=aD.1
   refine ⟨zK rfl rfl rfl dz,fun K hK=>?_⟩
   exact zaX
  ·have FB:a.eval (.tmp 20)=.slice la n lc:=ah 9 20 De Kr rfl
   have Kw:=Gd FB
   have fj:a.eval (.tmp 16)=.bool false:=ah 5 16 De Kr rfl
   have dz:=Gd fj
   obtain ⟨c0,c1,c2⟩:=aD.1
   refine ⟨zK rfl rfl rfl dz,fun K hK=>?_⟩
   exact zaX
  ·have FC:a.eval (.tmp 18)=.int .i64 (n:Nat):=ah 7 18 De Kr rfl
   have Kx:=Gd FC
   have FD:a.eval (.tmp 21)=.int .i64 (n:Nat):=ah 10 21 De Kr rfl
   have Ky:=Gd FD
   have fj:a.eval (.tmp 16)=.bool false:=ah 5 16 De Kr rfl
   have dz:=Gd fj
   refine ⟨zK rfl rfl rfl dz,fun K hK=>?_⟩
   exact zaX
  have fj:a.eval (.tmp 16)=.bool false:=ah 5 16 De Kr rfl
  have dz:=Gd fj
  have FE:a.eval (.tmp 22)=.bool false:=ah 11 22 De Kr rfl
  have Kz:=Gd FE
  refine ⟨rfl,fun K hK=>?_⟩
  exact zaX
 case rest =>
  intro fuel a2 wa aq ha hG
  have ge:a2.tmps.getD 23 undef=.bool false:=hG 12 23 De rfl rfl
  obtain ⟨x11,xY⟩:=Ex (a2.tmps.getD 11 undef)
  obtain ⟨x12,xZ⟩:=Ex (a2.tmps.getD 12 undef)
  obtain ⟨x13,yb⟩:=Ex (a2.tmps.getD 13 undef)
  obtain ⟨x14,yh⟩:=Ex (a2.tmps.getD 14 undef)
  obtain ⟨x15,yi⟩:=Ex (a2.tmps.getD 15 undef)
  obtain ⟨x16,yj⟩:=Ex (a2.tmps.getD 16 undef)
  obtain ⟨x17,yk⟩:=Ex (a2.tmps.getD 17 undef)
  obtain ⟨x18,ym⟩:=Ex (a2.tmps.getD 18 undef)
  obtain ⟨x19,yq⟩:=Ex (a2.tmps.getD 19 undef)
  obtain ⟨x20,yr⟩:=Ex (a2.tmps.getD 20 undef)
  obtain ⟨x21,yt⟩:=Ex (a2.tmps.getD 21 undef)
  obtain ⟨x22,yu⟩:=Ex (a2.tmps.getD 22 undef)
  simp only [List.foldl_cons,List.foldl_nil,ge,xY,xZ,yb,yh,yi,yj,yk,ym,yq,yr,yt,yu,Act.put,Ss] at ha
  clear ge xY xZ yb yh yi yj yk ym yq yr yt yu hG
  subst ha
  refine wpAnyH_done Kr ?_ _
  refine NoPanic.normal ?_
  have HF:=Hy (((Br w2).drew).trans aq)
  go_wp2
  go_loopw [6] (fun iv wr=>∃ i:Nat,i<=n/\iv=.int .i64 (i:Nat)/\Below w2.heap.size w2 wr) (fun iv _=>n - (intOf iv).toNat)
  case atStart=>exact ⟨0,by omega,rfl,HF.o⟩
  case round =>
   obtain ⟨i,hi,rfl,hb⟩:=hrel
   have aq:=H2.o.2.1.trans (hb.mono H2.o.2.1.size)
   have iT:=Hy aq
   by_cases aj:i<n
   ·have bh:(i:Int)<(n:Int):=by omega
    have iS:i<L.length:=by rw [HN.o];exact aj
    have KA:i<X.length:=by rw [wh.o];exact aj
    obtain ⟨xg,xo,rfl,Ei,bB⟩:=H2.o.2.2 i KA
    have x0:=(hb.cell (p:=⟨xg,_,none⟩) Ei).trans bB
    rw [HXi.o i iS KA] at x0
    obtain ⟨gq,vq,rfl,mC,fZ,iX,ir⟩:=zfE (HE.o wr aq) i iS
    have HG:=Hy (Eh.o i iS wr aq)
    have aW:=HSz.o i iS
    obtain ⟨⟨x,A⟩,hx⟩:∃ e,L[i]=e:=⟨_,rfl⟩
    rw [hx] at x0 fZ ir HG aW
    dsimp only at x0 fZ ir HG aW
    obtain ⟨qa,qc,rfl⟩:=zdi ir
    have HQ:=Hy (An mC (An fZ (An iX (An ir aW))))
    have Hb:=Hy hb
    clear bB hb aq Ei mC fZ iX ir aW hx
    go_wp2_with fail
    with_reducible refine HG.o.mono ?_
    rintro en w5 ⟨_,m8,ai⟩
    obtain ⟨v5,rfl,wj⟩:=m8 _ rfl
    obtain ⟨pa,pc,rfl⟩:=zdi wj
    obtain ⟨W6,iY⟩:=Ex (w5.alloc (.cells #[.string ⟨x.toArray⟩,.slice pa A.length pc] 39))
    have lO:=Nb iY
    have x6:=Nw iY
    have cR:=ai.trans (lO.mono ai.size)
    have tw:=Hb.o.trans (cR.mono Hb.o.size)
    have we:=zcn HQ.o.2.2.2.1 cR
    have KB:=zcn wj lO
    have y6:=Ob H2.o.1 tw
    have tA:=Nat.lt_of_lt_of_le HQ.o.1 cR.size
    have z0:=(cR.cell (p:=⟨gq,_,none⟩) HQ.o.1).trans HQ.o.2.1
    have z1:=(cR.cell (p:=⟨gq,_,none⟩) HQ.o.1).trans HQ.o.2.2.1
    have yw:=Hy (fun w' (co:Below W6.heap.size W6 w')=>show Calls prog 33 #[.agg #[.string ⟨x.toArray⟩,.slice pa A.length pc],.agg #[.string ⟨x.toArray⟩,.slice qa A.length qc]] w' (BB true w') from by
     have h1:A.length<=1000000:=by have:=HQ.o.2.2.2.2.1;omega
     have:=zxz A A x x (.slice pa A.length pc) (.slice qa A.length qc) w' (zdA (ziZ (zcn KB co))) (zdA (ziZ (zcn we co))) h1 h1 HQ.o.2.2.2.2.2 HQ.o.2.2.2.2.2
     rwa [decide_eq_true (An rfl rfl)] at this)
    obtain ⟨am,KC⟩:=Ex A.length
    rw [KC] at iY x6 z1 yw ⊢
    have HB:=Hy (fun wa (aq:Below W6.drew.heap.size W6.drew wa)=>show (wa.cell? ⟨w.heap.size,0,none⟩=some (.slice sa tn tc)/\wa.cell? ⟨w.heap.size,1,none⟩=some (.slice sc' cn cc)/\wa.cell? ⟨w.heap.size,2,none⟩=some (.slice (some ⟨gq,0,none⟩) n lc))/\(wa.cell? ⟨w5.heap.size,0,none⟩=some (.string ⟨x.toArray⟩)/\wa.cell? ⟨w5.heap.size,1,none⟩=some (.slice pa am pc))/\(wa.cell? ⟨gq,i*2,none⟩=some (.string ⟨x.toArray⟩)/\wa.cell? ⟨gq,i*2+1,none⟩=some (.slice qa am qc))/\Below W6.heap.size W6 wa from by
     have hw:=(Br W6).drew.trans aq
     exact ⟨ze (Ob y6 hw),zf (Ob x6 hw),⟨(hw.cell (p:=⟨gq,_,none⟩) tA).trans z0,(hw.cell (p:=⟨gq,_,none⟩) tA).trans z1⟩,hw⟩)
    have H6:=Hy (An x6 (An iY tw))
    clear wj ai lO x6 cR tw we KB y6 tA z0 z1 m8 KC iY
    go_wp2_with fail
    try rw [H6.o.2.1]
    refine wp_region_noPanic ?_
    refine wp_region_held_drew (S:=fun _=>True) Kr trivial (fun _=>?_)
    refine zfJ (f:=12) (A:=fun j=>decide (j<12)) (D:=[39,40,41,42,43,44,45,46,47,48,49,50]) (G:=exG [] (fun _ _ _=>True) [.bool true,.bool false,.bool false,.agg #[.string ⟨x.toArray⟩,.slice pa am pc],.pointer (some ⟨w.heap.size,2,none⟩),.slice (some ⟨gq,0,none⟩) n lc,.int .i64 (i:Nat),.pointer (some ⟨gq,i*2,none⟩),.agg #[.string ⟨x.toArray⟩,.slice qa am qc],.bool true,.bool false,.bool false]) (LIT:=#[true,true,true,true,true,true,true,true,true,true,true,true]) (r:=0) Kr Kr (fun h=>absurd h Dk) (fun h=>absurd h Dk) Kr (fun h=>absurd h Dk) (fun h=>absurd h Dk) Kr (fun j v w w' h _ hb=>ze8 (T:=fun w w'=>Below w.heap.size w w') (fun _ _ _ _ h _=>h) j v w w' h hb) (fun _ _ _ _ _ h=>h) ?op (fun h=>absurd h Dk) ?rest
    case op =>
     intro i' cG hA a wa aq aC ah
     have dr:i'<12:=by simpa using hA
     have aD:=HB.o _ aq
     rcases (show i'=0\/i'=1\/i'=2\/i'=3\/i'=4\/i'=5\/i'=6\/i'=7\/i'=8\/i'=9\/i'=10\/i'=11 by omega) with rfl | rfl | rfl | rfl | rfl | rfl | rfl | rfl | rfl | rfl | rfl | rfl
     ·have lP:a.eval (.tmp 8)=.bool true:=aC 8 rfl
      have qB:=Gd lP
      refine ⟨rfl,fun K hK=>?_⟩
      exact zaX
     ·have tB:a.eval (.tmp 39)=.bool true:=ah 0 39 De Kr rfl
      have yx:=Gd tB
      refine ⟨rfl,fun K hK=>?_⟩
      exact zaX
     ·have tC:a.eval (.tmp 40)=.bool false:=ah 1 40 De Kr rfl
      have yy:=Gd tC
      refine ⟨rfl,fun K hK=>?_⟩
      exact zaX
     ·have kn:a.eval (.tmp 7)=.pointer (some ⟨w5.heap.size,0,none⟩):=aC 7 rfl
      have qC:=Gd kn
      have cw:a.eval (.tmp 41)=.bool false:=ah 2 41 De Kr rfl
      have bF:=Gd cw
      obtain ⟨⟨c0,c1,c2⟩,⟨c3,c4⟩,⟨c5,c6⟩,_⟩:=aD
      refine ⟨zK rfl rfl rfl bF,fun K hK=>?_⟩
      exact zaX
     ·have gO:a.eval (.tmp 3)=.pointer (some ⟨w.heap.size,0,none⟩):=aC 3 rfl
      have km:=Gd gO
      have cw:a.eval (.tmp 41)=.bool false:=ah 2 41 De Kr rfl
      have bF:=Gd cw
      refine ⟨zK rfl rfl rfl bF,fun K hK=>?_⟩
      exact zaX
     ·have ko:a.eval (.tmp 43)=.pointer (some ⟨w.heap.size,2,none⟩):=ah 4 43 De Kr rfl
      have m9:=Gd ko
      have cw:a.eval (.tmp 41)=.bool false:=ah 2 41 De Kr rfl
      have bF:=Gd cw
      obtain ⟨⟨c0,c1,c2⟩,⟨c3,c4⟩,⟨c5,c6⟩,_⟩:=aD
      refine ⟨zK rfl rfl rfl bF,fun K hK=>?_⟩
      exact zaX
     ·have fz:a.eval (.tmp 6)=.int .i64 (i:Nat):=aC 6 rfl
      have kp:=Gd fz
      have cw:a.eval (.tmp 41)=.bool false:=ah 2 41 De Kr rfl
      have bF:=Gd cw
      refine ⟨zK rfl rfl rfl bF,fun K hK=>?_⟩
      exact zaX
     ·have kq:a.eval (.tmp 44)=.slice (some ⟨gq,0,none⟩) n lc:=ah 5 44 De Kr rfl
      have nh:=Gd kq
      have kr:a.eval (.tmp 45)=.int .i64 (i:Nat):=ah 6 45 De Kr rfl
      have ni:=Gd kr
      have cw:a.eval (.tmp 41)=.bool false:=ah 2 41 De Kr rfl
      have bF:=Gd cw
      refine ⟨zK rfl rfl rfl bF,fun K hK=>?_⟩
      exact zaX
     ·have ks:a.eval (.tmp 46)=.pointer (some ⟨gq,i*2,none⟩):=ah 7 46 De Kr rfl
      have nj:=Gd ks
      have cw:a.eval (.tmp 41)=.bool false:=ah 2 41 De Kr rfl
      have bF:=Gd cw
      obtain ⟨⟨c0,c1,c2⟩,⟨c3,c4⟩,⟨c5,c6⟩,_⟩:=aD
      refine ⟨zK rfl rfl rfl bF,fun K hK=>?_⟩
      exact zaX
     ·have kt:a.eval (.tmp 42)=.agg #[.string ⟨x.toArray⟩,.slice pa am pc]:=ah 3 42 De Kr rfl
      have nk:=Gd kt
      have fk:a.eval (.tmp 47)=.agg #[.string ⟨x.toArray⟩,.slice qa am qc]:=ah 8 47 De Kr rfl
      have iu:=Gd fk
      have cw:a.eval (.tmp 41)=.bool false:=ah 2 41 De Kr rfl
      have bF:=Gd cw
      have HC:=Hy (yw.o wa aD.2.2.2)
      refine ⟨zK rfl rfl rfl bF,fun K hK=>?_⟩
      exact zkO
     ·have ku:a.eval (.tmp 48)=.bool true:=ah 9 48 De Kr rfl
      have nn:=Gd ku
      have cw:a.eval (.tmp 41)=.bool false:=ah 2 41 De Kr rfl
      have bF:=Gd cw
      refine ⟨zK rfl rfl rfl bF,fun K hK=>?_⟩
      exact zaX
     have cw:a.eval (.tmp 41)=.bool false:=ah 2 41 De Kr rfl
     have bF:=Gd cw
     have tD:a.eval (.tmp 49)=.bool false:=ah 10 49 De Kr rfl
     have yz:=Gd tD
     refine ⟨rfl,fun K hK=>?_⟩
     exact zaX
    case rest =>
     intro fuel a2 wa aq ha hG
     have ge:a2.tmps.getD 50 undef=.bool false:=hG 11 50 De rfl rfl
     obtain ⟨x39,np⟩:=Ex (a2.tmps.getD 39 undef)
     obtain ⟨x40,nr⟩:=Ex (a2.tmps.getD 40 undef)
     obtain ⟨KD,jz⟩:=Ex (a2.tmps.getD 41 undef)
     obtain ⟨FF,go⟩:=Ex (a2.tmps.getD 42 undef)
     obtain ⟨FG,gp⟩:=Ex (a2.tmps.getD 43 undef)
     obtain ⟨FH,gr⟩:=Ex (a2.tmps.getD 44 undef)
     obtain ⟨FI,gt⟩:=Ex (a2.tmps.getD 45 undef)
     obtain ⟨FJ,gu⟩:=Ex (a2.tmps.getD 46 undef)
     obtain ⟨Ej,eP⟩:=Ex (a2.tmps.getD 47 undef)
     obtain ⟨FK,gw⟩:=Ex (a2.tmps.getD 48 undef)
     obtain ⟨x49,ns⟩:=Ex (a2.tmps.getD 49 undef)
     simp only [List.foldl_cons,List.foldl_nil,ge,np,nr,jz,go,gp,gr,gt,gu,eP,gw,ns,Act.put,Ss] at ha
     clear ge np nr jz go gp gr gt gu eP gw ns hG
     subst ha
     refine wpAnyH_done Kr ?_ _
     refine NoPanic.normal ?_
     have HF8:=Hy (H6.o.2.2.trans ((((Br W6).drew).trans aq).mono H6.o.2.2.size))
     go_wp2
     exact ⟨⟨i+1,by omega,by go_num,HF8.o⟩,by simp [intOf];omega⟩
   have cW:¬ (i:Int)<(n:Int):=by omega
   clear hb aq
   go_wp2
   go_ret
   exact zB rfl iT.o
end Go.Proofs.YtijglbolppkefaaGreatDoor
