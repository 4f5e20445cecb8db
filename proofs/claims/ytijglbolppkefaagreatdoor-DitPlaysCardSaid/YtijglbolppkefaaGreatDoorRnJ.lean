/- The document's tree: Put, Add. -/
import Derived.Test.YtijglbolppkefaaGreatDoorDtRc
import Derived.Test.YtijglbolppkefaaGreatDoorMMoReg
import Derived.Test.YtijglbolppkefaaGreatDoorScK
import Derived.Test.YtijglbolppkefaaGreatDoorMPlEF
import Derived.Test.YtijglbolppkefaaGreatDoorDtK
set_option linter.unusedVariables false
set_option linter.unusedSimpArgs false
set_option maxHeartbeats 25600000
set_option maxRecDepth 100000
namespace Go.Proofs.YtijglbolppkefaaGreatDoor
open Go.Proofs.Tryz
open Go Go.RowKit Go.Proofs.BerK Go.Proofs.MemK Go.Proofs.UtfK Go.Proofs.RegK Go.Maps Go.WideMaps
variable {w : World} {B i rb : Nat} {t : TypeId} {cs : Array Value} {a b c lv : Value} {L : List Ent}
theorem zqr {p:Prop} (h:p:=by
 clear t0 t1 t2 e0 e1 gW
 by_cases cF:ck=0
 ·subst cF
  obtain ⟨t0,t1,t2⟩:=ze e7.o.1
  obtain ⟨e0,e1⟩:=zf e7.o.2.1
  have iV:=Hy (iq.o wA e7.o.2.2.2)
  go_wp2_with fail
  with_reducible refine iV.o.mono ?_
  rintro en wB ⟨rfl,bp⟩
  have fN:=Hy (An (Ob e7.o.1 bp) (An (Ob e7.o.2.1 bp) (An (Ob e7.o.2.2.1 bp) (e7.o.2.2.2.trans (bp.mono e7.o.2.2.2.size)))))
  clear t0 t1 t2 e0 e1 bp
  cases ng with
  | false =>
   have HQ:=Hy (pO.o 64 (by rw [mx.o];simp) De)
   have H8:=Hy (An fN.o.2.2.1 (An (jZ.o _ fN.o.2.2.2) fN.o.2.2.2))
   obtain ⟨t0,t1,t2⟩:=ze fN.o.1
   obtain ⟨l0,l1,l2⟩:=ze H8.o.1
   have v0:=zc H8.o.1 0
   have v1:=zc H8.o.1 1
   have v2:=zc H8.o.1 2
   go_wp2
   obtain ⟨j0,j1,j2⟩:=ze (zbd H8.o.1 (.slice sa tn tc) (.slice sc' cn cc) (.slice la n lc))
   refine bodyPost_ret (v:=.tuple #[.agg #[.slice sa tn tc,.slice sc' cn cc,.slice la n lc],.int .i64 64]) (by simp [results,results28,go_sem, *]) rfl ?_
   exact zdI HQ.o (zb1 H8.o.2.1 H8.o.1 _ _ _) (zdj H8.o.2.2 Om _ _ _)
  | true =>
   by_cases Jh:1024<=n
   ·have hbi:(1024:Int)<=(n:Int):=by omega
    have HQ:=Hy (pO.o 80 (by rw [mx.o];simp [Jh]) De)
    have H8:=Hy (An fN.o.2.2.1 (An (jZ.o _ fN.o.2.2.2) fN.o.2.2.2))
    obtain ⟨t0,t1,t2⟩:=ze fN.o.1
    obtain ⟨l0,l1,l2⟩:=ze H8.o.1
    have v0:=zc H8.o.1 0
    have v1:=zc H8.o.1 1
    have v2:=zc H8.o.1 2
    go_wp2
    obtain ⟨j0,j1,j2⟩:=ze (zbd H8.o.1 (.slice sa tn tc) (.slice sc' cn cc) (.slice la n lc))
    refine bodyPost_ret (v:=.tuple #[.agg #[.slice sa tn tc,.slice sc' cn cc,.slice la n lc],.int .i64 80]) (by simp [results,results28,go_sem, *]) rfl ?_
    exact zdI HQ.o (zb1 H8.o.2.1 H8.o.1 _ _ _) (zdj H8.o.2.2 Om _ _ _)
   have hbi:¬ (1024:Int)<=(n:Int):=by omega
   have HQ:=Hy (An (tj.o (by rw [mx.o];simp;omega)) (show AC=0 by rw [mx.o];simp;omega))
   obtain ⟨t0,t1,t2⟩:=ze fN.o.1
   obtain ⟨e0,e1⟩:=zf fN.o.2.1
   have tk:=Hy (iU.o wB fN.o.2.2.2)
   go_wp2_with fail
   with_reducible refine tk.o.mono ?_
   rintro en wC ⟨lvC,rfl,qz,pP⟩
   obtain ⟨oa,oc,rfl⟩:=za8 qz
   have qA:=Ob fN.o.2.2.1 pP
   have mY:=fN.o.2.2.2.trans (pP.mono fN.o.2.2.2.size)
   obtain ⟨pn,rL⟩:=Ex pt.length
   rw [rL] at qz ⊢
   have H8:=Hy (An qA (An qz mY))
   obtain ⟨l0,l1,l2⟩:=ze qA
   have v0:=zc qA 0
   have v1:=zc qA 1
   have v2:=zc qA 2
   clear qA qz mY pP rL t0 t1 t2 e0 e1
   go_wp2
   obtain ⟨j0,j1,j2⟩:=ze (zbd H8.o.1 (.slice sa tn tc) (.slice sc' cn cc) (.slice oa pn oc))
   refine bodyPost_ret (v:=.tuple #[.agg #[.slice sa tn tc,.slice sc' cn cc,.slice oa pn oc],.int .i64 0]) (by simp [results,results28,go_sem, *]) rfl ?_
   exact zdI (L:=pt) HQ.o (zb1 H8.o.2.1 H8.o.1 _ _ _) (zdj H8.o.2.2 Om _ _ _)
 have tl:((ck:Int) != 0)=true:=by simpa using cF
 have HQ:=Hy (pO.o ck (by rw [mx.o];simp [cF]) cF)
 have H8:=Hy (An e7.o.2.2.1 (An (jZ.o _ e7.o.2.2.2) e7.o.2.2.2))
 obtain ⟨t0,t1,t2⟩:=ze e7.o.1
 obtain ⟨l0,l1,l2⟩:=ze H8.o.1
 have v0:=zc H8.o.1 0
 have v1:=zc H8.o.1 1
 have v2:=zc H8.o.1 2
 go_wp2
 obtain ⟨j0,j1,j2⟩:=ze (zbd H8.o.1 (.slice sa tn tc) (.slice sc' cn cc) (.slice la n lc))
 refine bodyPost_ret (v:=.tuple #[.agg #[.slice sa tn tc,.slice sc' cn cc,.slice la n lc],.int .i64 (ck:Nat)]) (by simp [results,results28,go_sem, *]) rfl ?_
 exact zdI HQ.o (zb1 H8.o.2.1 H8.o.1 _ _ _) (zdj H8.o.2.2 Om _ _ _)):p:=h
theorem zko {p:Prop} (h:p:=by
 exact zdI HQ.o (zb1 H8.o.2.1 H8.o.1 _ _ _) (zdj H8.o.2.2 Om _ _ _)):p:=h
theorem zhJ {p:Prop} (h:p:=by
 refine ⟨rfl,fun K hK=>?_⟩
 simp only [Sg] at hK ⊢
 go_simp
 exact hK _ _ rfl (Br _)):p:=h
theorem zhK {v:Value} {L:List Atr} (h:zC w v L) (hx:w.heap[rb]?=some (.cells cs t (0,0))) (h1:74 ≠ t) (h2:9 ≠ t) (x:Value):zC (w.setCell ⟨rb,i,none⟩ x) v L:=by
 have hc:Chg (fun b=>b=rb) w (w.setCell ⟨rb,i,none⟩ x):=(Chg.refl (fun b=>b=rb) w).setCell (p:=⟨rb,i,none⟩) (fun _=>rfl) x
 have key:∀ {e:TypeId} {s n B:Nat} {u:Value} {xs:List Value},e≠t->w.ownsRow B e s u n xs->∀ k,u.ownBlock=some k->¬ k=rb:=by
  intro e s n B u xs aH hr k hk ek
  subst ek
  rcases hr.2 with ⟨rfl,_⟩ | ⟨g',cap,cur,rfl,_,hg,_⟩
  ·simp [Value.ownBlock] at hk
  simp [Value.ownBlock] at hk
  subst hk
  rw [hx] at hg
  injection hg with hg
  injection hg with _ h5 _
  exact aH h5.symm
 obtain ⟨Lq,B,hq,hr⟩:=h
 exact ⟨Lq,B,⟨hq.1,fun i i1 i2=>⟨(hq.2 i i1 i2).1,by obtain ⟨_,B2,hB⟩:=hq.2 i i1 i2;exact ⟨B2,zz hB hc (key h2 hB)⟩⟩⟩,zz hr hc (key h1 hr)⟩
theorem zhL (h:zN w B lv L) (hx:w.heap[rb]?=some (.cells cs 35 (0,0))) (x:Value):zN (w.setCell ⟨rb,i,none⟩ x) B lv L:=by
 obtain ⟨Lq,⟨h1,h2⟩,h3⟩:=h
 have hc:Chg (fun b=>b=rb) w (w.setCell ⟨rb,i,none⟩ x):=(Chg.refl (fun b=>b=rb) w).setCell (p:=⟨rb,i,none⟩) (fun _=>rfl) x
 refine ⟨Lq,⟨h1,fun i a b=>⟨(h2 i a b).1,zhK (h2 i a b).2 hx De De x⟩⟩,zz h3 hc (fun k hk e=>?_)⟩
 have e:k=rb:=e
 subst e
 rcases h3.2 with ⟨rfl,_⟩ | ⟨g',cap,cur,rfl,_,hg,_⟩
 ·simp [Value.ownBlock] at hk
 simp [Value.ownBlock] at hk
 subst hk
 rw [hx] at hg
 injection hg with hg
 injection hg with _ h5 _
 exact absurd h5 De
theorem zb1 (h:zN w B lv L) (hx:w.heap[rb]?=some (.cells #[a,b,c] 35 (0,0))) (x y z:Value):zN (((w.setCell ⟨rb,0,none⟩ x).setCell ⟨rb,1,none⟩ y).setCell ⟨rb,2,none⟩ z) B lv L :=
 zhL (zhL (zhL h hx x) (zH hx 0 x) y) (zH (zH hx 0 x) 1 y) z
theorem zA2 {B':Nat} (h:zN w B lv L) (hB:B'<=B):zN w B' lv L:=by
 obtain ⟨Lq,h1,h3⟩:=h
 exact ⟨Lq,h1,zaK h3 hB⟩
theorem zbd {g:Nat} (h:w.heap[g]?=some (.cells #[a,b,c] t (0,0))) (x y z:Value):(((w.setCell ⟨g,0,none⟩ x).setCell ⟨g,1,none⟩ y).setCell ⟨g,2,none⟩ z).heap[g]?=some (.cells #[x,y,z] t (0,0)):=by simpa using zH (zH (zH h 0 x) 1 y) 2 z
theorem zdj {a:World} (h:Below B a w) {g:Nat} (hg:B<=g) (x y z:Value):Below B a (((w.setCell ⟨g,0,none⟩ x).setCell ⟨g,1,none⟩ y).setCell ⟨g,2,none⟩ z):=((h.setCell (p:=⟨g,0,none⟩) hg x).setCell (p:=⟨g,1,none⟩) hg y).setCell (p:=⟨g,2,none⟩) hg z
theorem zkp {W1:World} {d e f k l:Value} (h:((w.alloc (.cells #[a,b,c] 35)).alloc (.cells #[d,e] 39)).alloc (.cells #[f,k,l] 35)=W1) :
  W1.heap[w.heap.size]?=some (.cells #[a,b,c] 35 (0,0))/\W1.heap[w.heap.size+1]?=some (.cells #[d,e] 39 (0,0))/\W1.heap[w.heap.size+1+1]?=some (.cells #[f,k,l] 35 (0,0))/\Below w.heap.size w W1/\W1.heap.size=w.heap.size+3:=by
 obtain ⟨U,hU⟩:=Ex (w.alloc (.cells #[a,b,c] 35))
 obtain ⟨V,hV⟩:=Ex (U.alloc (.cells #[d,e] 39))
 rw [hU,hV] at h
 have sU:U.heap.size=w.heap.size+1:=by rw [<- hU];simp
 have sV:V.heap.size=w.heap.size+1+1:=by rw [<- hV];simp [sU]
 have bU:=Nb hU
 have bV:=Nb hV
 have bW:=Nb h
 have y0:=Nw hU
 have y1:V.heap[w.heap.size+1]?=some (.cells #[d,e] 39 (0,0)):=by rw [<- hV,<- sU];exact heap_alloc_new U _
 have y2:W1.heap[w.heap.size+1+1]?=some (.cells #[f,k,l] 35 (0,0)):=by rw [<- h,<- sV];exact heap_alloc_new V _
 refine ⟨zj (zj y0 bV Om) bW Om,zj y1 bW Om,y2,bU.trans ((bV.trans (bW.mono bV.size)).mono bU.size),?_⟩
 rw [<- h];simp [sV]
def qEa (dn:Bs) (L:List Atr) (v:Value) (w:World):Prop:=∃ a c,v=.agg #[.string ⟨dn.toArray⟩,.slice a L.length c]/\zC w (.slice a L.length c) L
def qEs (B:Nat) (L:List Ent) (v:Value) (w:World):Prop:=∃ a c,v=.slice a L.length c/\zN w B (.slice a L.length c) L
def puG (tb:Nat) (lv ev:Value) (dn:Bs) (X:List Atr) (B:Nat) (M:List Ent):Nat->Value->World->Prop
 | 0=>fun v _=>v=.pointer (some ⟨tb,2,none⟩)
 | 1=>fun v _=>v=lv
 | 2=>fun v _=>v=ev
 | 3=>qEa dn X
 | 4=>qEs B M
 | 5=>fun v _=>v=.pointer (some ⟨tb,2,none⟩)
 | _=>fun _ _=>True
theorem zA3 (tb:Nat) (lv ev:Value) (dn:Bs) (X:List Atr) (B:Nat) (M:List Ent):∀ (j:Nat) (v:Value) (w w':World),puG tb lv ev dn X B M j v w->Below w.heap.size w w'->puG tb lv ev dn X B M j v w'
 | 0,v,w,w',h,hb=>h
 | 1,v,w,w',h,hb=>h
 | 2,v,w,w',h,hb=>h
 | 3,v,w,w',h,hb=>by obtain ⟨a,c,e,h⟩:=h;exact ⟨a,c,e,zcn h hb⟩
 | 4,v,w,w',h,hb=>by obtain ⟨a,c,e,h⟩:=h;exact ⟨a,c,e,zT h hb⟩
 | 5,v,w,w',h,hb=>h
 | _+6,_,_,_,_,_=>trivial
theorem zqs (B:Nat) (ta tn tc ca cn cc:Nat) (sa sc':Option Addr) (lv av:Value) (L:List Ent) (dn:Bs) (A:List Atr) (w:World) (h:zN w B lv L) (hl:L.length<=100000) (hA:zaB w av A) (hf:za3 300 300 A) :
  Calls prog 51 #[.agg #[.slice sa tn tc,.slice sc' cn cc,lv],.agg #[.string ⟨dn.toArray⟩,av]] w (zoA (.slice sa tn tc) (.slice sc' cn cc) (zF (dn,clA A) L) w):=by
 obtain ⟨la,lc,rfl⟩:=za8 h
 obtain ⟨ea,ec,rfl,eE⟩:=hA
 have hA:zaB w (.slice ea A.length ec) A:=⟨ea,ec,rfl,eE⟩
 clear eE
 obtain ⟨W1,aB⟩:=Ex (((w.alloc (.cells #[.slice sa tn tc,.slice sc' cn cc,.slice la L.length lc] 35)).alloc (.cells #[.string ⟨dn.toArray⟩,.slice ea A.length ec] 39)).alloc (.cells #[.slice none 0 0,.slice none 0 0,.slice none 0 0] 35))
 obtain ⟨x0,x1,x2,au,bi⟩:=zkp aB
 have iJ:=Hy (fun w' (hb:Below w.heap.size w w')=>zqd dn A (.slice ea A.length ec) w' (zbL hA hb) hf)
 have vk:=Hy (fun w' (hb:Below w.heap.size w w') u (hu:zC w' u (clA A))=>zuO B (.slice la L.length lc) u L dn (clA A) w' (zT h hb) hl hu)
 obtain ⟨X,hX⟩:=Ex (clA A)
 rw [hX] at iJ vk ⊢
 obtain ⟨M,hM⟩:=Ex (zF (dn,X) L)
 rw [hM] at vk ⊢
 have HX:=Hy (An x0 (An x1 (An x2 (An au bi))))
 obtain ⟨n,hn⟩:=Ex L.length
 obtain ⟨m,hm⟩:=Ex A.length
 rw [hn] at vk HX aB ⊢
 rw [hm] at iJ HX aB ⊢
 have br:=Hy aB
 clear h hl hA hf x0 x1 x2 au bi hX hM hn hm aB
 go_enter func51,ntmps51
 go_wp2_with fail
 try rw [br.o]
 have HB:=Hy (fun wa (aq:Below W1.drew.heap.size W1.drew wa)=>show (wa.cell? ⟨w.heap.size,0,none⟩=some (.slice sa tn tc)/\wa.cell? ⟨w.heap.size,1,none⟩=some (.slice sc' cn cc)/\wa.cell? ⟨w.heap.size,2,none⟩=some (.slice la n lc))/\(wa.cell? ⟨w.heap.size+1,0,none⟩=some (.string ⟨dn.toArray⟩)/\wa.cell? ⟨w.heap.size+1,1,none⟩=some (.slice ea m ec))/\Below w.heap.size w wa/\W1.heap.size<=wa.heap.size from by
  have hw:=(Br W1).drew.trans aq
  exact ⟨ze (Ob HX.o.1 hw),zf (Ob HX.o.2.1 hw),HX.o.2.2.2.1.trans (hw.mono HX.o.2.2.2.1.size),hw.size⟩)
 refine wp_region_noPanic ?_
 refine wp_region_held_drew (S:=fun _=>True) Kr trivial (fun _=>?_)
 refine zfJ (f:=7) (A:=fun j=>decide (j<6)) (D:=[5,6,7,8,9,10]) (G:=puG w.heap.size (.slice la n lc) (.agg #[.string ⟨dn.toArray⟩,.slice ea m ec]) dn X w.heap.size M) (LIT:=#[true,true,true,true,true,true,false]) (r:=1) Kr Kr (fun h=>absurd h Dk) (fun h=>absurd h Dk) Kr (fun h=>absurd h Dk) (fun h=>absurd h Dk) Kr (fun j v w w' h _ hb=>zA3 _ _ _ _ _ _ _ j v w w' h hb) (fun _ _ _ _ _ h=>h) ?op (fun h=>absurd h Dk) ?rest
 case op =>
  intro i' cG hA a wa aq aC ah
  have dr:i'<6:=by simpa using hA
  have aD:=HB.o _ aq
  rcases (show i'=0\/i'=1\/i'=2\/i'=3\/i'=4\/i'=5 by omega) with rfl | rfl | rfl | rfl | rfl | rfl
  ·have l5:a.eval (.tmp 2)=.pointer (some ⟨w.heap.size,0,none⟩):=aC 2 rfl
   have CQ:=Gd l5
   exact zhJ
  ·have e8:a.eval (.tmp 5)=.pointer (some ⟨w.heap.size,2,none⟩):=ah 0 5 De Kr rfl
   have gX:=Gd e8
   obtain ⟨c0,c1,c2⟩:=aD.1
   exact zhJ
  ·have gO:a.eval (.tmp 3)=.pointer (some ⟨w.heap.size+1,0,none⟩):=aC 3 rfl
   have km:=Gd gO
   obtain ⟨c0,c1⟩:=aD.2.1
   exact zhJ
  ·have kn:a.eval (.tmp 7)=.agg #[.string ⟨dn.toArray⟩,.slice ea m ec]:=ah 2 7 De Kr rfl
   have qC:=Gd kn
   refine ⟨rfl,fun K hK=>?_⟩
   simp only [Sg] at hK ⊢
   go_simp
   with_reducible refine (iJ.o _ aD.2.2.1).mono ?_
   rintro en w6 ⟨u,rfl,hp,az⟩
   obtain ⟨ua,uc,rfl⟩:=zdi hp
   go_simp
   exact hK _ _ ⟨_,_,rfl,hp⟩ az
  ·have fz:a.eval (.tmp 6)=.slice la n lc:=ah 1 6 De Kr rfl
   have kp:=Gd fz
   obtain ⟨ua,uc,e,dg⟩:=ah 3 8 De Kr rfl
   have lP:a.eval (.tmp 8)=_:=e
   have qB:=Gd lP
   have HC:=Hy (vk.o wa aD.2.2.1 _ dg)
   clear dg
   refine ⟨rfl,fun K hK=>?_⟩
   simp only [Sg] at hK ⊢
   go_simp
   with_reducible refine HC.o.mono ?_
   rintro en w6 ⟨ov,rfl,hp,az⟩
   obtain ⟨oa,oc,rfl⟩:=za8 hp
   go_simp
   exact hK _ _ ⟨_,_,rfl,zA2 hp (Nat.le_trans (Nat.le_of_lt (by have:=HX.o.2.2.2.2;omega:w.heap.size<W1.heap.size)) aD.2.2.2)⟩ az
  have l5:a.eval (.tmp 2)=.pointer (some ⟨w.heap.size,0,none⟩):=aC 2 rfl
  have CQ:=Gd l5
  exact zhJ
 case rest =>
  intro fuel a wa aq ha hG
  have rR:=hG 4 9 De rfl rfl
  have nN:a.tmps.getD 10 undef=.pointer (some ⟨w.heap.size,2,none⟩):=hG 5 10 De rfl rfl
  obtain ⟨oa,oc,bB,dg⟩:=rR
  obtain ⟨x5,sn⟩:=Ex (a.tmps.getD 5 undef)
  obtain ⟨x6,pW⟩:=Ex (a.tmps.getD 6 undef)
  obtain ⟨x7,Np⟩:=Ex (a.tmps.getD 7 undef)
  obtain ⟨x8,Nq⟩:=Ex (a.tmps.getD 8 undef)
  simp only [List.foldl_cons,List.foldl_nil,bB,nN,sn,pW,Np,Nq,Act.put,Ss] at ha
  clear bB nN sn pW Np Nq hG
  subst ha
  have hw:=(Br W1).drew.trans aq
  have y0:=Ob HX.o.1 hw
  have y2:=Ob HX.o.2.2.1 hw
  obtain ⟨q0,q1,q2⟩:=ze y0
  have u2:=zc y0 2
  have aD:=(HB.o _ aq).2.2.1
  obtain ⟨mm,ct⟩:=Ex M.length
  rw [ct] at dg ⊢
  refine wpAnyH_ready (rs:=[6]) Kr Sm ?_
  refine AllReadyH.cons (o:=_) rfl (fun KR aM=>?c6) AllReadyH.nil
  go_simp
  refine aM.out _ _ trivial (fun _=>?_)
  clear aM KR
  try simp only [Sg,Act.put,Ss]
  refine wpAnyH_done Kr ?_ _
  refine NoPanic.normal ?_
  have s0:(wa.setCell ⟨w.heap.size,2,none⟩ (.slice oa mm oc)).heap[w.heap.size]?=some (.cells #[.slice sa tn tc,.slice sc' cn cc,.slice oa mm oc] 35 (0,0)):=by simpa using zH y0 2 (.slice oa mm oc)
  have s2:(wa.setCell ⟨w.heap.size,2,none⟩ (.slice oa mm oc)).heap[w.heap.size+1+1]?=some (.cells #[.slice none 0 0,.slice none 0 0,.slice none 0 0] 35 (0,0)):=(Below.heap_setCell _ _ _ _ (by intro e;have e:w.heap.size+1+1=w.heap.size:=e;omega)).trans y2
  have sE:zN (wa.setCell ⟨w.heap.size,2,none⟩ (.slice oa mm oc)) w.heap.size (.slice oa mm oc) M:=zhL dg y0 _
  have sB:Below w.heap.size w (wa.setCell ⟨w.heap.size,2,none⟩ (.slice oa mm oc)):=aD.setCell (p:=⟨w.heap.size,2,none⟩) Lr _
  obtain ⟨W8,dU⟩:=Ex (wa.setCell ⟨w.heap.size,2,none⟩ (.slice oa mm oc))
  rw [dU] at s0 s2 sE sB ⊢
  obtain ⟨k0,k1,k2⟩:=ze s0
  obtain ⟨l0,l1,l2⟩:=ze s2
  have v0:=zc s2 0
  have v1:=zc s2 1
  have v2:=zc s2 2
  have HF:=Hy (An s2 (An sE sB))
  clear s0 s2 sE sB dU y0 y2 q0 q1 q2 u2 dg hw aq aD ct
  go_wp2
  obtain ⟨j0,j1,j2⟩:=ze (zbd HF.o.1 (.slice sa tn tc) (.slice sc' cn cc) (.slice oa mm oc))
  refine bodyPost_ret (v:=.agg #[.slice sa tn tc,.slice sc' cn cc,.slice oa mm oc]) (by simp [results,results51,go_sem, *]) rfl ?_
  exact ⟨_,rfl,zb1 HF.o.2.1 HF.o.1 _ _ _,zdj HF.o.2.2 Om _ _ _⟩
def zhM (tv cv:Value) (p:List Ent) (c:Nat) (w:World) (en:Ending) (w':World):Prop:=∃ B lv,en=.returned (.tuple #[.agg #[tv,cv,lv],.int .i64 (c:Nat)])/\zN w' B lv p/\Below w.heap.size w w'
theorem zdI {tv cv:Value} {M:List Ent} {c d:Nat} {w':World} (h:M=L/\c=d) (hE:zN w' B lv L) (hb:Below w.heap.size w w'):zhM tv cv M c w (.returned (.tuple #[.agg #[tv,cv,lv],.int .i64 (d:Nat)])) w':=by
 obtain ⟨rfl,rfl⟩:=h
 exact ⟨B,lv,rfl,hE,hb⟩
theorem zA4 (B:Nat) (ta tn tc ca cn cc:Nat) (sa sc':Option Addr) (lv av:Value) (L:List Ent) (dn:Bs) (A:List Atr) (w:World) (h:zN w B lv L) (hl:L.length<=100000) (hT:zL w (.slice sa tn tc) plT) (hC:zai w (.slice sc' cn cc) plC) (hA:zaB w av A) (hf:zcz A) (hdn:dn.length<=100000) :
  Calls prog 28 #[.agg #[.slice sa tn tc,.slice sc' cn cc,lv],.agg #[.string ⟨dn.toArray⟩,av]] w (zhM (.slice sa tn tc) (.slice sc' cn cc) (zX L (dn,A)) (zP L (dn,A)) w):=by
 obtain ⟨la,lc,rfl⟩:=za8 h
 obtain ⟨ea,ec,rfl,eE⟩:=hA
 have hA:zaB w (.slice ea A.length ec) A:=⟨ea,ec,rfl,eE⟩
 clear eE
 obtain ⟨W1,aB⟩:=Ex (((w.alloc (.cells #[.slice sa tn tc,.slice sc' cn cc,.slice la L.length lc] 35)).alloc (.cells #[.string ⟨dn.toArray⟩,.slice ea A.length ec] 39)).alloc (.cells #[.slice none 0 0,.slice none 0 0,.slice none 0 0] 35))
 obtain ⟨x0,x1,x2,au,bi⟩:=zkp aB
 have Nr:=Hy (fun w'=>zyy dn w')
 have oK:=Hy (fun w'=>zyz dn w')
 have lL:=Hy (fun s w' (hb:Below w.heap.size w w')=>zgR B (.slice sa tn tc) (.slice sc' cn cc) (.slice la L.length lc) L s w' (zT h hb) Om)
 have dq:=Hy (fun w' (hb:Below w.heap.size w w')=>zqw plT plC A (.slice sa tn tc) (.slice sc' cn cc) (.slice ea A.length ec) ⟨dn.toArray⟩ w' (zbc hT hb) (zed hC hb) (zbL hA hb) Dk Dk Dk Dk Dk (by have:=hf.1.1;omega) (fun a ha=>by
  obtain ⟨h1,h2,h3⟩:=hf.1.2 a ha
  exact ⟨by omega,by omega,fun s hs=>by have:=h3 s hs;omega⟩))
 have iq:=Hy (fun w' (hb:Below w.heap.size w w')=>zoU A dn (.slice sa tn tc) (.slice sc' cn cc) (.slice ea A.length ec) w' (zbc hT hb) (zbL hA hb) hf.2)
 have iU:=Hy (fun w' (hb:Below w.heap.size w w')=>zqs B ta tn tc ca cn cc sa sc' (.slice la L.length lc) (.slice ea A.length ec) L dn A w' (zT h hb) hl (zbL hA hb) hf.2)
 have jZ:=Hy (fun w' (hb:Below w.heap.size w w')=>zT h hb)
 have u6:=(zpg dn).1.symm.trans (zpg dn).2
 have d8:zP L (dn,A)=(if (zw dn).2=false then 34 else if zt L dn=true then 68 else if (zw dn).1≠[]/\zt L (zw dn).1=false then 32 else if zbs (dn,A)≠0 then zbs (dn,A) else if 1024<=L.length then 80 else 0):=rfl
 have dj:zX L (dn,A)=if zP L (dn,A)=0 then zF (dn,clA A) L else L:=rfl
 have qb:zbs (dn,A)=if zaP plT plC A≠0 then zaP plT plC A else if zcT A dn=false then 64 else 0:=rfl
 obtain ⟨AC,th⟩:=Ex (zP L (dn,A))
 obtain ⟨AL,ti⟩:=Ex (zX L (dn,A))
 rw [th] at d8 dj
 rw [ti] at dj
 rw [th,ti]
 obtain ⟨ck,dP⟩:=Ex (zaP plT plC A)
 obtain ⟨ng,xT⟩:=Ex (zcT A dn)
 obtain ⟨pt,xU⟩:=Ex (zF (dn,clA A) L)
 obtain ⟨⟨pp,pk⟩,jr⟩:∃ c,zw dn=c:=⟨_,rfl⟩
 obtain ⟨dd,uV⟩:=Ex (zd6 dn)
 obtain ⟨h1,gN⟩:=Ex (zt L dn)
 obtain ⟨h2,Ji⟩:=Ex (zt L pp)
 rw [dP] at dq qb
 rw [xT] at iq qb
 rw [xU] at iU dj
 rw [jr] at oK d8 u6
 rw [uV] at Nr u6
 rw [qb,gN] at d8
 dsimp only at d8 u6
 rw [Ji] at d8
 have pO:=Hy (fun c (hc:AC=c) (h0:c≠0)=>show AL=L/\AC=c from ⟨by rw [dj,if_neg (by rw [hc];exact h0)],hc⟩)
 have tj:=Hy (fun (hc:AC=0)=>show AL=pt from by rw [dj,if_pos hc])
 have mW:=Hy (fun w' hb=>show Calls prog 36 #[.agg #[.slice sa tn tc,.slice sc' cn cc,.slice la L.length lc],.string ⟨dn.toArray⟩] w' (fun en w''=>∃ n:Int,en=.returned (.int .i64 n)/\(0<=n ↔ h1=true)/\Below w'.heap.size w' w'') from by have:=lL.o dn w' hb;unfold zeK at this;rw [gN] at this;exact this)
 have C9:=Hy (fun w' hb=>show Calls prog 36 #[.agg #[.slice sa tn tc,.slice sc' cn cc,.slice la L.length lc],.string ⟨pp.toArray⟩] w' (fun en w''=>∃ n:Int,en=.returned (.int .i64 n)/\(0<=n ↔ h2=true)/\Below w'.heap.size w' w'') from by have:=lL.o pp w' hb;unfold zeK at this;rw [Ji] at this;exact this)
 have HX:=Hy (An x0 (An x1 (An x2 au)))
 have wg:=Hy d8
 have Ns:=Hy (show pk=true ↔ 0<dd by rw [u6];simp)
 have j4:=hl
 obtain ⟨n,hn⟩:=Ex L.length
 obtain ⟨m,hm⟩:=Ex A.length
 rw [hn] at mW C9 iU jZ HX wg aB j4 ⊢
 rw [hm] at dq iq iU HX aB ⊢
 have br:=Hy aB
 clear h hl hT hC hA hf hdn x0 x1 x2 au bi u6 d8 dj qb th ti dP xT xU jr uV gN Ji hn hm aB lL
 obtain ⟨e0,e1⟩:=zf HX.o.2.1
 go_enter func28,ntmps28
 go_wp2_with fail
 try rw [br.o]
 with_reducible refine (Nr.o W1).mono ?_
 rintro en w2 ⟨rfl,ak⟩
 clear e0 e1
 obtain ⟨e0,e1⟩:=zf (Ob HX.o.2.1 ak)
 have H2:=Hy ak
 clear ak
 go_wp2_with fail
 with_reducible refine (oK.o w2).mono ?_
 rintro en w3 ⟨rfl,aK⟩
 dsimp only
 have im:=H2.o.trans (aK.mono H2.o.size)
 have y0:=Ob HX.o.1 im
 have y1:=Ob HX.o.2.1 im
 have y2:=Ob HX.o.2.2.1 im
 have aq:=HX.o.2.2.2.trans (im.mono HX.o.2.2.2.size)
 clear e0 e1
 have H3:=Hy (An y0 (An y1 (An y2 aq)))
 clear aK im y0 y1 y2 aq
 by_cases ef:dd<1
 ·have HQ:=Hy (pO.o 34 (by rw [wg.o,if_pos];cases pk;rfl;exact absurd (Ns.o.1 rfl) Om) De)
  have H8:=Hy (An H3.o.2.2.1 (An (jZ.o _ H3.o.2.2.2) H3.o.2.2.2))
  obtain ⟨t0,t1,t2⟩:=ze H3.o.1
  obtain ⟨l0,l1,l2⟩:=ze H8.o.1
  have v0:=zc H8.o.1 0
  have v1:=zc H8.o.1 1
  have v2:=zc H8.o.1 2
  go_wp2
  obtain ⟨j0,j1,j2⟩:=ze (zbd H8.o.1 (.slice sa tn tc) (.slice sc' cn cc) (.slice la n lc))
  refine bodyPost_ret (v:=.tuple #[.agg #[.slice sa tn tc,.slice sc' cn cc,.slice la n lc],.int .i64 34]) (by simp [results,results28,go_sem, *]) rfl ?_
  exact zko
 have GP:pk=true:=Ns.o.2 Om
 have d8:=wg.o
 rw [GP,if_neg De] at d8
 have Da:=Hy d8
 clear d8 GP
 obtain ⟨t0,t1,t2⟩:=ze H3.o.1
 obtain ⟨e0,e1⟩:=zf H3.o.2.1
 have cu:=Hy (mW.o w3 H3.o.2.2.2)
 go_wp2_with fail
 with_reducible refine cu.o.mono ?_
 rintro en w4 ⟨n1,rfl,de,bf⟩
 have H4:=Hy (An (Ob H3.o.1 bf) (An (Ob H3.o.2.1 bf) (An (Ob H3.o.2.2.1 bf) (H3.o.2.2.2.trans (bf.mono H3.o.2.2.2.size)))))
 clear t0 t1 t2 e0 e1 bf
 cases h1 with
 | true =>
  have hq:(0:Int)<=n1:=de.2 rfl
  have HQ:=Hy (pO.o 68 (by rw [Da.o,if_pos rfl]) De)
  have H8:=Hy (An H4.o.2.2.1 (An (jZ.o _ H4.o.2.2.2) H4.o.2.2.2))
  obtain ⟨t0,t1,t2⟩:=ze H4.o.1
  clear de
  obtain ⟨l0,l1,l2⟩:=ze H8.o.1
  have v0:=zc H8.o.1 0
  have v1:=zc H8.o.1 1
  have v2:=zc H8.o.1 2
  go_wp2
  obtain ⟨j0,j1,j2⟩:=ze (zbd H8.o.1 (.slice sa tn tc) (.slice sc' cn cc) (.slice la n lc))
  refine bodyPost_ret (v:=.tuple #[.agg #[.slice sa tn tc,.slice sc' cn cc,.slice la n lc],.int .i64 68]) (by simp [results,results28,go_sem, *]) rfl ?_
  exact zko
 | false =>
  have hq:¬ (0:Int)<=n1:=fun h=>by have:=de.1 h;cases this
  have d8:=Da.o
  rw [if_neg De] at d8
  have vu:=Hy d8
  clear d8 de
  by_cases jr:pp=[]
  ·have mS:pp.isEmpty=true:=by simp [jr]
   have d8:=vu.o
   rw [if_neg (by simp [jr])] at d8
   have mx:=Hy d8
   clear d8 jr
   obtain ⟨t0,t1,t2⟩:=ze H4.o.1
   obtain ⟨e0,e1⟩:=zf H4.o.2.1
   have mX:=Hy (dq.o w4 H4.o.2.2.2)
   go_wp2_with fail
   with_reducible refine mX.o.mono ?_
   rintro en wA ⟨rfl,gW⟩
   have e7:=Hy (An (Ob H4.o.1 gW) (An (Ob H4.o.2.1 gW) (An (Ob H4.o.2.2.1 gW) (H4.o.2.2.2.trans (gW.mono H4.o.2.2.2.size)))))
   exact zqr
  have mS:pp.isEmpty=false:=by simpa using jr
  have wE:=Hy jr
  obtain ⟨t0,t1,t2⟩:=ze H4.o.1
  have gM:=Hy (C9.o w4 H4.o.2.2.2)
  clear jr
  go_wp2_with fail
  with_reducible refine gM.o.mono ?_
  rintro en w5 ⟨n2,rfl,kE,ai⟩
  have H5:=Hy (An (Ob H4.o.1 ai) (An (Ob H4.o.2.1 ai) (An (Ob H4.o.2.2.1 ai) (H4.o.2.2.2.trans (ai.mono H4.o.2.2.2.size)))))
  clear t0 t1 t2 ai
  cases h2 with
  | false =>
   have dG:n2<(0:Int):=by
    by_cases h:(0:Int)<=n2
    ·have:=kE.1 h;cases this
    omega
   have HQ:=Hy (pO.o 32 (by rw [vu.o,if_pos ⟨wE.o,rfl⟩]) De)
   have H8:=Hy (An H5.o.2.2.1 (An (jZ.o _ H5.o.2.2.2) H5.o.2.2.2))
   obtain ⟨t0,t1,t2⟩:=ze H5.o.1
   clear kE
   obtain ⟨l0,l1,l2⟩:=ze H8.o.1
   have v0:=zc H8.o.1 0
   have v1:=zc H8.o.1 1
   have v2:=zc H8.o.1 2
   go_wp2
   obtain ⟨j0,j1,j2⟩:=ze (zbd H8.o.1 (.slice sa tn tc) (.slice sc' cn cc) (.slice la n lc))
   refine bodyPost_ret (v:=.tuple #[.agg #[.slice sa tn tc,.slice sc' cn cc,.slice la n lc],.int .i64 32]) (by simp [results,results28,go_sem, *]) rfl ?_
   exact zko
  | true =>
   have dG:¬ n2<(0:Int):=by have:=kE.2 rfl;omega
   have d8:=vu.o
   rw [if_neg Sm] at d8
   have mx:=Hy d8
   clear d8 kE
   obtain ⟨t0,t1,t2⟩:=ze H5.o.1
   obtain ⟨e0,e1⟩:=zf H5.o.2.1
   have mX:=Hy (dq.o w5 H5.o.2.2.2)
   go_wp2_with fail
   with_reducible refine mX.o.mono ?_
   rintro en wA ⟨rfl,gW⟩
   have e7:=Hy (An (Ob H5.o.1 gW) (An (Ob H5.o.2.1 gW) (An (Ob H5.o.2.2.1 gW) (H5.o.2.2.2.trans (gW.mono H5.o.2.2.2.size)))))
   exact zqr
end Go.Proofs.YtijglbolppkefaaGreatDoor
