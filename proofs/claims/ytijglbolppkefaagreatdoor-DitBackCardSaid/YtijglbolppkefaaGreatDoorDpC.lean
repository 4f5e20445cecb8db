/- A deed in both trees. -/
import Derived.Test.YtijglbolppkefaaGreatDoorDpB
set_option linter.unusedVariables false
set_option linter.unusedSimpArgs false
set_option maxHeartbeats 25600000
set_option maxRecDepth 100000
namespace Go.Proofs.YtijglbolppkefaaGreatDoor
open Go.Proofs.Tryz
open Go Go.RowKit Go.Proofs.BerK Go.Proofs.MemK Go.Proofs.UtfK Go.Proofs.RegK Go.Maps Go.WideMaps
theorem zh3 {p:Prop} (h:p:=by
 go_simp
 refine aM.out _ _ trivial (fun _=>?_)
 clear aM KR
 try simp only [Sg,Act.put,Ss]
 refine wpAnyH_done Kr ?_ _
 refine NoPanic.normal ?_
 obtain ⟨S2,nt,rP,KE,nu,pR⟩:=hR
 rw [if_pos Dk] at nt nu
 obtain ⟨j0,j1,j2⟩:=ze nu
 have HF:=Hy (An nt (An rP (An KE pR)))
 clear nt rP KE nu pR
 go_wp2
 refine bodyPost_ret (v:=.tuple #[.agg #[.slice sa tn tc,.slice sc' cn cc,.slice qa ml qk],.bool true]) (by simp [results,results11,go_sem, *]) rfl ?_
 refine ⟨B4,_,S2,rfl,?_,?_,?_,?_⟩
 ·exact HF.o.2.2.2
 ·exact HF.o.1
 ·exact (Chg.ofBelow cS.o.2.2.2.2.2.1).trans ((Chg.ofBelow (Br W5).drew).trans HF.o.2.1 Fi) (fun k hk h=>by
   rcases h with h | h
   ·exact h
   omega)
 exact fun k hk=>(HF.o.2.2.1 k hk).imp id (fun h=>Nat.le_trans cS.o.2.2.2.2.2.1.size h)):p:=h
theorem zh4 {p:Prop} (h:p:=by
 have e8:a.eval (.tmp 5)=.pointer (some ⟨w.heap.size+1,0,none⟩):=aC 5 rfl
 have gX:=Gd e8
 refine ⟨rfl,fun K hK=>?_⟩
 simp only [Sg] at hK ⊢
 go_simp
 exact hK _ _ rfl trivial (zcu hR 2 De De)):p:=h
theorem zh5 {p:Prop} (h:p:=by
 obtain ⟨S1,pS,rQ⟩:=zrJ hR k8 De
 have HC:=Hy (qD.o wa S1 pS)
 clear pS
 refine ⟨rfl,fun K hK=>?_⟩
 simp only [Sg] at hK ⊢
 go_simp
 with_reducible refine HC.o.mono ?_
 rintro en w6 ⟨rfl,S2,lQ,bj,j3⟩
 have HZ:=Hy (rQ S2 w6 lQ bj j3)
 clear lQ bj j3 rQ
 go_simp
 exact hK _ _ rfl trivial HZ.o):p:=h
theorem zh6 {p:Prop} (h:p:=by
 have ip:a.eval (.tmp 0)=.pointer (some ⟨g,0,none⟩):=aC 0 rfl
 have m7:=Gd ip
 refine ⟨rfl,fun K hK=>?_⟩
 simp only [Sg] at hK ⊢
 go_simp
 exact hK _ _ rfl trivial (zcu hR 1 De De)):p:=h
theorem zh7 {p:Prop} (h:p:=by
 have wk:=zrL hR k8
 have u0:=zc wk 0
 have u1:=zc wk 1
 have u2:=zc wk 2
 have HZ:=Hy (zrK hR k8 De FL.o)
 obtain ⟨q0,q1,q2⟩:=ze wk
 refine ⟨rfl,fun K hK=>?_⟩
 simp only [Sg] at hK ⊢
 go_simp
 exact hK undef _ rfl trivial HZ.o):p:=h
theorem zh8 {p:Prop} (h:p:=by
 obtain ⟨c0,c1,c2⟩:=ze aD.1
 obtain ⟨c3,c4,c5⟩:=ze aD.2
 refine ⟨rfl,fun K hK=>?_⟩
 simp only [Sg] at hK ⊢
 go_simp
 exact hK _ _ rfl trivial (zcu hR 0 De De)):p:=h
theorem zh9 {p:Prop} (h:p:=by
 refine ⟨rfl,fun K hK=>?_⟩
 simp only [Sg] at hK ⊢
 go_simp
 exact hK _ _ rfl trivial (zcu hR 3 De De)):p:=h
theorem zia {p:Prop} (h:p:=by
 refine ⟨rfl,fun K hK=>?_⟩
 simp only [Sg] at hK ⊢
 go_simp
 exact hK _ _ rfl trivial (zcu hR 6 De De)):p:=h
theorem zkQ {p:Prop} (h:p:=by
 refine ⟨rfl,fun K hK=>?_⟩
 simp only [Sg] at hK ⊢
 go_simp
 exact hK _ _ rfl trivial (zcu hR 5 De De)):p:=h
def dpR (w1:World) (sb g rb:Nat) (S:Nat->Prop) (L L':List Ent) (w0:World) (bx:Array Value) (B:Nat) (lv:Value) (M:List Ent) (ci si:Nat) (l:Nat->Bool) (w:World):Prop :=
 ∃ S',TIn w1 w sb g S' (if l ci=true then L' else L)/\Chg (fun k=>S k\/k=rb) w0 w/\(∀ k,S' k->S k\/w0.heap.size<=k)/\w.heap[rb]?=some (.cells (if l si=true then bx else #[.slice none 0 0,.slice none 0 0,.slice none 0 0]) 35 (0,0))/\zN w B lv M
variable {w1 : World} {sb g rb : Nat} {S : Nat -> Prop} {L L' : List Ent} {w0 : World} {bx : Array Value} {B : Nat} {lv : Value} {M : List Ent} {ci si : Nat} {l : Nat -> Bool} {w : World}
theorem zcu (h:dpR w1 sb g rb S L L' w0 bx B lv M ci si l w) (i:Nat) (h1:i≠ci) (h2:i≠si):dpR w1 sb g rb S L L' w0 bx B lv M ci si (fun j=>if i=j then true else l j) w:=by
 obtain ⟨S',a1,a2,a3,a4,a5⟩:=h
 exact ⟨S',by simp only [if_neg h1];exact a1,a2,a3,by simp only [if_neg h2];exact a4,a5⟩
theorem zeg (h:dpR w1 sb g rb S L L' w0 bx B lv M ci si l w) (hS:∀ k,S k->zbA w0 k) {b:Nat} {cs:Array Value} {t:TypeId} {m:Nat × Nat} (hb:w0.heap[b]?=some (.cells cs t m)) (ht:t≠79) (aH:b≠rb):w.heap[b]?=some (.cells cs t m):=by
 obtain ⟨S',a1,a2,a3,a4,a5⟩:=h
 refine (a2.block b (zhu hb) (fun hq=>?_)).trans hb
 rcases hq with hq | hq
 ·rcases hS b hq with ⟨es,c,hm⟩ | ⟨cs',m',hm⟩
  ·rw [hb] at hm;cases hm
  rw [hb] at hm
  injection hm with hm
  injection hm with _ h5 _
  exact ht h5
 exact aH hq
theorem zrJ (h:dpR w1 sb g rb S L L' w0 bx B lv M ci si l w) (hl:l ci=false) (bQ:ci≠si):∃ S1,TIn w1 w sb g S1 L/\∀ S2 w',TIn w1 w' sb g S2 L'->Chg S1 w w'->(∀ k,S2 k->S1 k\/w.heap.size<=k)->dpR w1 sb g rb S L L' w0 bx B lv M ci si (fun j=>if ci=j then true else l j) w':=by
 obtain ⟨S',a1,a2,a3,a4,a5⟩:=h
 rw [hl,if_neg De] at a1
 refine ⟨S',a1,fun S2 w' b1 b2 b3=>⟨S2,by simpa using b1,a2.trans b2 (fun k hk hS=>?_),fun k hk=>?_,?_,ze1 (fun k hk=>(zap a1.1 k hk).1) a5 b2⟩⟩
 ·rcases a3 k hS with q | q
  ·exact .inl q
  omega
 ·rcases b3 k hk with q | q
  ·exact a3 k q
  exact .inr (Nat.le_trans a2.size q)
 simp only [if_neg bQ]
 exact zd9 a1 b2 a4 De
theorem zrK {x y z:Value} (h:dpR w1 sb g rb S L L' w0 #[x,y,z] B lv M ci si l w) (hl:l si=false) (bQ:ci≠si) (hB:w1.heap.size<=rb):dpR w1 sb g rb S L L' w0 #[x,y,z] B lv M ci si (fun j=>if si=j then true else l j) (((w.setCell ⟨rb,0,none⟩ x).setCell ⟨rb,1,none⟩ y).setCell ⟨rb,2,none⟩ z):=by
 obtain ⟨S',a1,a2,a3,a4,a5⟩:=h
 rw [hl,if_neg De] at a4
 refine ⟨S',?_,a2.trans (zea w rb x y z) (fun k _ hk=>.inr hk),a3,?_,zb1 a5 a4 x y z⟩
 ·simp only [if_neg (Ne.symm bQ)]
  exact zfQ a1 a4 hB x y z
 simp only [if_true]
 exact zbd a4 x y z
theorem zrL (h:dpR w1 sb g rb S L L' w0 bx B lv M ci si l w) (hl:l si=false):w.heap[rb]?=some (.cells #[.slice none 0 0,.slice none 0 0,.slice none 0 0] 35 (0,0)):=by
 obtain ⟨S',a1,a2,a3,a4,a5⟩:=h
 rwa [hl,if_neg De] at a4
def doL (kd:Int) (L:List Ent) (e:Ent):List Ent:=if kd=0 then zX L e else if kd=1 then zaD L e.1 else zbf L e
def zib (w1:World) (sb g:Nat) (S:Nat->Prop) (tv cv:Value) (L':List Ent) (w:World) (en:Ending) (w':World):Prop :=
 ∃ B lv S',en=.returned (.tuple #[.agg #[tv,cv,lv],.bool true])/\zN w' B lv L'/\TIn w1 w' sb g S' L'/\Chg S w w'/\∀ k,S' k->S k\/w.heap.size<=k
theorem zrM {w W1:World} {c1 c2 c3:Array Value} {t1 t2 t3:TypeId} (h:((w.alloc (.cells c1 t1)).alloc (.cells c2 t2)).alloc (.cells c3 t3)=W1) :
  W1.heap[w.heap.size]?=some (.cells c1 t1 (0,0))/\W1.heap[w.heap.size+1]?=some (.cells c2 t2 (0,0))/\W1.heap[w.heap.size+1+1]?=some (.cells c3 t3 (0,0))/\Below w.heap.size w W1/\W1.heap.size=w.heap.size+3:=by
 obtain ⟨U,hU⟩:=Ex (w.alloc (.cells c1 t1))
 obtain ⟨V,hV⟩:=Ex (U.alloc (.cells c2 t2))
 rw [hU,hV] at h
 have sU:U.heap.size=w.heap.size+1:=by rw [<- hU];simp
 have sV:V.heap.size=w.heap.size+1+1:=by rw [<- hV];simp [sU]
 have bU:=Nb hU
 have bV:=Nb hV
 have bW:=Nb h
 have y0:=Nw hU
 have y1:V.heap[w.heap.size+1]?=some (.cells c2 t2 (0,0)):=by rw [<- hV,<- sU];exact heap_alloc_new U _
 have y2:W1.heap[w.heap.size+1+1]?=some (.cells c3 t3 (0,0)):=by rw [<- h,<- sV];exact heap_alloc_new V _
 refine ⟨zj (zj y0 bV Om) bW Om,zj y1 bW Om,y2,bU.trans ((bV.trans (bW.mono bV.size)).mono bU.size),?_⟩
 rw [<- h];simp [sV]
theorem zkR (w1:World) (sb g:Nat) (S0:Nat->Prop) (L:List Ent) (B0:Nat) (tn tc cn cc:Nat) (sa sc':Option Addr) (KG:Value) (kd:Int) (dn:Bs) (A:List Atr) (av:Value) (w:World) (hw:Wld w1 sb) (ht:TIn w1 w sb g S0 L) (hE:zN w B0 KG L) (iZ:zL w (.slice sa tn tc) plT) (qE:zai w (.slice sc' cn cc) plC) (hA:∀ w',Below w1.heap.size w1 w'->zak w' av A) (jA:zcz A) (hdn:dn.length<=100000) :
  Calls prog 11 #[.pointer (some ⟨g,0,none⟩),.agg #[.slice sa tn tc,.slice sc' cn cc,KG],.agg #[.int .i64 kd,.string ⟨dn.toArray⟩,av]] w (zib w1 sb g S0 (.slice sa tn tc) (.slice sc' cn cc) (doL kd L (dn,A)) w):=by
 obtain ⟨la,lc,rfl⟩:=za8 hE
 obtain ⟨ea,ec,rfl⟩:=zdH (hA w1 (Br _))
 have j4:L.length<=100000:=by have:=ht.2.2.2;omega
 obtain ⟨W1,aB⟩:=Ex (((w.alloc (.cells #[.slice sa tn tc,.slice sc' cn cc,.slice la L.length lc] 35)).alloc (.cells #[.int .i64 kd,.string ⟨dn.toArray⟩,.slice ea A.length ec] 41)).alloc (.cells #[.slice none 0 0,.slice none 0 0,.slice none 0 0] 35))
 obtain ⟨x0,x1,x2,au,bi⟩:=zrM aB
 have HX:=Hy (An x0 (An x1 (An x2 (An au bi))))
 have HT:=Hy ht
 have FM:=Hy hA
 by_cases cX:kd=0
 ·subst cX
  have gV:zX L (dn,A)=doL 0 L (dn,A):=by unfold doL;rw [if_pos rfl]
  rw [<- gV]
  have k9:=Hy (zA4 B0 (ta:=0) tn tc (ca:=0) cn cc sa sc' (.slice la L.length lc) (.slice ea A.length ec) L dn A W1 (zT hE au) j4 (zbc iZ au) (zed qE au) (zdA (hA W1 (ht.2.1.trans (au.mono ht.2.1.size)))) jA hdn)
  have qD:=Hy (fun w' S1 (h:TIn w1 w' sb g S1 L)=>zpD hw h (hA _ h.2.1) jA (show dn.length<=140737488355328 by omega))
  obtain ⟨DC,lM⟩:=Ex (zP L (dn,A))
  obtain ⟨DL,gx⟩:=Ex (zX L (dn,A))
  rw [lM,gx] at k9 qD
  rw [gx]
  obtain ⟨en,eL⟩:=Ex A.length
  obtain ⟨lm,cT⟩:=Ex L.length
  rw [eL] at HX aB ⊢
  try rw [eL] at k9
  try rw [eL] at qD
  rw [cT] at HX k9 aB ⊢
  have br:=Hy aB
  clear gV lM gx eL cT ht hE iZ qE hA jA hdn hw aB au bi x0 x1 x2 j4 FM
  obtain ⟨t0,t1,t2⟩:=ze HX.o.1
  obtain ⟨e0,e1,e2⟩:=ze HX.o.2.1
  go_enter func11,ntmps11
  go_wp2_with fail
  try rw [br.o]
  with_reducible refine k9.o.mono ?_
  rintro en' w4 ⟨B4,KH,rfl,ld,bf⟩
  obtain ⟨qa,qk,rfl⟩:=za8 ld
  obtain ⟨ml,fb⟩:=Ex DL.length
  rw [fb] at ld ⊢
  obtain ⟨W5,eQ⟩:=Ex (w4.alloc (.cells #[.slice sa tn tc,.slice sc' cn cc,.slice qa ml qk] 35))
  have ai:=Nb eQ
  have x5:=Nw eQ
  have eR:=bf.trans (ai.mono bf.size)
  have cM:=HX.o.2.2.2.1.trans (eR.mono HX.o.2.2.2.1.size)
  have cS:=Hy (An (zJ HT.o cM) (An (Ob HX.o.2.1 eR) (An (Ob HX.o.2.2.1 eR) (An x5 (An (zT ld ai) (An cM (show w.heap.size+1+1≠w4.heap.size/\w.heap.size+1≠w.heap.size+1+1 by have:=bf.size;have:=HX.o.2.2.2.2;omega)))))))
  have FL:=Hy (show w1.heap.size<=w.heap.size+1+1 by have:=HT.o.2.1.size;omega)
  have mD:=Hy eQ
  clear ld bf fb ai x5 eR cM eQ t0 t1 t2 e0 e1 e2
  go_wp2_with fail
  try rw [mD.o]
  have jB:=Hy (fun l wa (hR:dpR w1 sb g (w.heap.size+1+1) S0 L DL W5.drew #[.slice sa tn tc,.slice sc' cn cc,.slice qa ml qk] B4 (.slice qa ml qk) DL 4 7 l wa)=>show wa.heap[w4.heap.size]?=some (.cells #[.slice sa tn tc,.slice sc' cn cc,.slice qa ml qk] 35 (0,0))/\wa.heap[w.heap.size+1]?=some (.cells #[.int .i64 0,.string ⟨dn.toArray⟩,.slice ea en ec] 41 (0,0)) from by
   have hS:∀ k,S0 k->zbA W5.drew k:=fun k hk=>(zap (zJ cS.o.1 (Br W5).drew).1 k hk).1
   exact ⟨zeg hR hS (zj cS.o.2.2.2.1 (Br W5).drew (zi cS.o.2.2.2.1)) De (Ne.symm cS.o.2.2.2.2.2.2.1),zeg hR hS (zj cS.o.2.1 (Br W5).drew (zi cS.o.2.1)) De cS.o.2.2.2.2.2.2.2⟩)
  refine wp_region_noPanic ?_
  refine wp_region_held_drew (S:=fun _=>True) Kr trivial (fun _=>?_)
  refine zd2 (f:=10) (A:=fun j=>decide (j<8)) (D:=[25,26,27,28,29,30,31]) (G:=exG [] (fun _ _ _=>True) [.agg #[.slice sa tn tc,.slice sc' cn cc,.slice qa ml qk],.pointer (some ⟨g,0,none⟩),.pointer (some ⟨w.heap.size+1,1,none⟩),.agg #[.string ⟨dn.toArray⟩,.slice ea en ec],.int .i64 (DC:Nat),.int .i64 (DC:Nat),.bool true]) (LIT:=#[true,true,true,true,true,true,true,true,false]) (r:=1) (R:=dpR w1 sb g (w.heap.size+1+1) S0 L DL W5.drew #[.slice sa tn tc,.slice sc' cn cc,.slice qa ml qk] B4 (.slice qa ml qk) DL 4 7) (T:=fun _ _=>True) ?R0 (fun _=>trivial) Kr Kr (fun h=>absurd h Dk) (fun h=>absurd h Dk) Kr (fun h=>absurd h Dk) (fun h=>absurd h Dk) Kr (fun _ _ _ _ _ _ h _=>h) (fun _ _ _ _ _ h=>h) ?op (fun h=>absurd h Dk) (fun l w h=>zcu h 10 De De) ?rest
  case R0=>exact ⟨S0,by rw [if_neg De];exact zJ cS.o.1 (Br W5).drew,Chg.ofBelow (Br _),fun _ h=>.inl h,by rw [if_neg De];exact zj cS.o.2.2.1 (Br W5).drew (zi cS.o.2.2.1),zT cS.o.2.2.2.2.1 (Br W5).drew⟩
  case op =>
   intro i' cG hA l a wa k8 hR aC ah _
   have dr:i'<8:=by simpa using hA
   have aD:=jB.o l wa hR
   rcases (show i'=0\/i'=1\/i'=2\/i'=3\/i'=4\/i'=5\/i'=6\/i'=7 by omega) with rfl | rfl | rfl | rfl | rfl | rfl | rfl | rfl
   ·have lP:a.eval (.tmp 8)=.pointer (some ⟨w4.heap.size,0,none⟩):=aC 8 rfl
    have qB:=Gd lP
    exact zh8
   ·exact zh6
   ·exact zh4
   ·have FN:a.eval (.tmp 27)=.pointer (some ⟨w.heap.size+1,1,none⟩):=ah 2 27 De Kr rfl
    have KI:=Gd FN
    obtain ⟨c0,c1,c2⟩:=ze aD.1
    obtain ⟨c3,c4,c5⟩:=ze aD.2
    exact zh9
   ·have FO:a.eval (.tmp 26)=.pointer (some ⟨g,0,none⟩):=ah 1 26 De Kr rfl
    have KJ:=Gd FO
    have FP:a.eval (.tmp 28)=.agg #[.string ⟨dn.toArray⟩,.slice ea en ec]:=ah 3 28 De Kr rfl
    have KK:=Gd FP
    exact zh5
   ·have qF:a.eval (.tmp 9)=.int .i64 (DC:Nat):=aC 9 rfl
    have nw:=Gd qF
    exact zkQ
   ·have FQ:a.eval (.tmp 29)=.int .i64 (DC:Nat):=ah 4 29 De Kr rfl
    have KL:=Gd FQ
    have FR:a.eval (.tmp 30)=.int .i64 (DC:Nat):=ah 5 30 De Kr rfl
    have KM:=Gd FR
    exact zia
   have fz:a.eval (.tmp 6)=.pointer (some ⟨w.heap.size+1+1,0,none⟩):=aC 6 rfl
   have kp:=Gd fz
   have FS:a.eval (.tmp 25)=.agg #[.slice sa tn tc,.slice sc' cn cc,.slice qa ml qk]:=ah 0 25 De Kr rfl
   have KN:=Gd FS
   exact zh7
  case rest =>
   intro fuel a2 wa hR ha hG
   have ge:a2.tmps.getD 31 undef=.bool true:=hG 6 31 De rfl rfl
   obtain ⟨x25,yA⟩:=Ex (a2.tmps.getD 25 undef)
   obtain ⟨x26,yB⟩:=Ex (a2.tmps.getD 26 undef)
   obtain ⟨x27,yC⟩:=Ex (a2.tmps.getD 27 undef)
   obtain ⟨x28,yD⟩:=Ex (a2.tmps.getD 28 undef)
   obtain ⟨x29,yE⟩:=Ex (a2.tmps.getD 29 undef)
   obtain ⟨x30,yF⟩:=Ex (a2.tmps.getD 30 undef)
   simp only [List.foldl_cons,List.foldl_nil,ge,yA,yB,yC,yD,yE,yF,Act.put,Ss] at ha
   clear ge yA yB yC yD yE yF hG
   subst ha
   refine wpAnyH_ready (rs:=[8]) Kr Sm ?_
   refine AllReadyH.cons (o:=_) rfl (fun KR aM=>?c8k4) AllReadyH.nil
   exact zh3
 have z0:(kd==0)=false:=by simpa using cX
 by_cases fM:kd=1
 ·subst fM
  have gV:zaD L dn=doL 1 L (dn,A):=by unfold doL;rw [if_neg De,if_pos rfl]
  rw [<- gV]
  have k9:=Hy (zrH B0 (ta:=0) tn tc (ca:=0) cn cc sa sc' (.slice la L.length lc) L dn W1 (zT hE au) j4 ht.2.2.1)
  have qD:=Hy (fun w' S1 (h:TIn w1 w' sb g S1 L)=>zpE hw h (show dn.length<=140737488355328 by omega))
  obtain ⟨DC,lM⟩:=Ex (zaI L dn)
  obtain ⟨DL,gx⟩:=Ex (zaD L dn)
  rw [lM,gx] at k9 qD
  rw [gx]
  obtain ⟨en,eL⟩:=Ex A.length
  obtain ⟨lm,cT⟩:=Ex L.length
  rw [eL] at HX aB ⊢
  try rw [eL] at k9
  try rw [eL] at qD
  rw [cT] at HX k9 aB ⊢
  have br:=Hy aB
  clear gV lM gx eL cT ht hE iZ qE hA jA hdn hw aB au bi x0 x1 x2 j4 FM
  obtain ⟨t0,t1,t2⟩:=ze HX.o.1
  obtain ⟨e0,e1,e2⟩:=ze HX.o.2.1
  go_enter func11,ntmps11
  go_wp2_with fail
  try rw [br.o]
  with_reducible refine k9.o.mono ?_
  rintro en' w4 ⟨B4,KH,rfl,ld,bf⟩
  obtain ⟨qa,qk,rfl⟩:=za8 ld
  obtain ⟨ml,fb⟩:=Ex DL.length
  rw [fb] at ld ⊢
  obtain ⟨W5,eQ⟩:=Ex (w4.alloc (.cells #[.slice sa tn tc,.slice sc' cn cc,.slice qa ml qk] 35))
  have ai:=Nb eQ
  have x5:=Nw eQ
  have eR:=bf.trans (ai.mono bf.size)
  have cM:=HX.o.2.2.2.1.trans (eR.mono HX.o.2.2.2.1.size)
  have cS:=Hy (An (zJ HT.o cM) (An (Ob HX.o.2.1 eR) (An (Ob HX.o.2.2.1 eR) (An x5 (An (zT ld ai) (An cM (show w.heap.size+1+1≠w4.heap.size/\w.heap.size+1≠w.heap.size+1+1 by have:=bf.size;have:=HX.o.2.2.2.2;omega)))))))
  have FL:=Hy (show w1.heap.size<=w.heap.size+1+1 by have:=HT.o.2.1.size;omega)
  have mD:=Hy eQ
  clear ld bf fb ai x5 eR cM eQ t0 t1 t2 e0 e1 e2
  go_wp2_with fail
  try rw [mD.o]
  have jB:=Hy (fun l wa (hR:dpR w1 sb g (w.heap.size+1+1) S0 L DL W5.drew #[.slice sa tn tc,.slice sc' cn cc,.slice qa ml qk] B4 (.slice qa ml qk) DL 5 8 l wa)=>show wa.heap[w4.heap.size]?=some (.cells #[.slice sa tn tc,.slice sc' cn cc,.slice qa ml qk] 35 (0,0))/\wa.heap[w.heap.size+1]?=some (.cells #[.int .i64 1,.string ⟨dn.toArray⟩,.slice ea en ec] 41 (0,0)) from by
   have hS:∀ k,S0 k->zbA W5.drew k:=fun k hk=>(zap (zJ cS.o.1 (Br W5).drew).1 k hk).1
   exact ⟨zeg hR hS (zj cS.o.2.2.2.1 (Br W5).drew (zi cS.o.2.2.2.1)) De (Ne.symm cS.o.2.2.2.2.2.2.1),zeg hR hS (zj cS.o.2.1 (Br W5).drew (zi cS.o.2.1)) De cS.o.2.2.2.2.2.2.2⟩)
  refine wp_region_noPanic ?_
  refine wp_region_held_drew (S:=fun _=>True) Kr trivial (fun _=>?_)
  refine zd2 (f:=11) (A:=fun j=>decide (j<9)) (D:=[42,43,44,45,46,47,48,49]) (G:=exG [] (fun _ _ _=>True) [.agg #[.slice sa tn tc,.slice sc' cn cc,.slice qa ml qk],.pointer (some ⟨g,0,none⟩),.pointer (some ⟨w.heap.size+1,1,none⟩),.pointer (some ⟨w.heap.size+1,1,none⟩),.string ⟨dn.toArray⟩,.int .i64 (DC:Nat),.int .i64 (DC:Nat),.bool true]) (LIT:=#[true,true,true,true,true,true,true,true,true,false]) (r:=1) (R:=dpR w1 sb g (w.heap.size+1+1) S0 L DL W5.drew #[.slice sa tn tc,.slice sc' cn cc,.slice qa ml qk] B4 (.slice qa ml qk) DL 5 8) (T:=fun _ _=>True) ?R0 (fun _=>trivial) Kr Kr (fun h=>absurd h Dk) (fun h=>absurd h Dk) Kr (fun h=>absurd h Dk) (fun h=>absurd h Dk) Kr (fun _ _ _ _ _ _ h _=>h) (fun _ _ _ _ _ h=>h) ?op (fun h=>absurd h Dk) (fun l w h=>zcu h 11 De De) ?rest
  case R0=>exact ⟨S0,by rw [if_neg De];exact zJ cS.o.1 (Br W5).drew,Chg.ofBelow (Br _),fun _ h=>.inl h,by rw [if_neg De];exact zj cS.o.2.2.1 (Br W5).drew (zi cS.o.2.2.1),zT cS.o.2.2.2.2.1 (Br W5).drew⟩
  case op =>
   intro i' cG hA l a wa k8 hR aC ah _
   have dr:i'<9:=by simpa using hA
   have aD:=jB.o l wa hR
   rcases (show i'=0\/i'=1\/i'=2\/i'=3\/i'=4\/i'=5\/i'=6\/i'=7\/i'=8 by omega) with rfl | rfl | rfl | rfl | rfl | rfl | rfl | rfl | rfl
   ·have FT:a.eval (.tmp 10)=.pointer (some ⟨w4.heap.size,0,none⟩):=aC 10 rfl
    have KO:=Gd FT
    exact zh8
   ·exact zh6
   ·exact zh4
   ·have kq:a.eval (.tmp 44)=.pointer (some ⟨w.heap.size+1,1,none⟩):=ah 2 44 De Kr rfl
    have nh:=Gd kq
    exact zh9
   ·have kr:a.eval (.tmp 45)=.pointer (some ⟨w.heap.size+1,1,none⟩):=ah 3 45 De Kr rfl
    have ni:=Gd kr
    obtain ⟨c0,c1,c2⟩:=ze aD.1
    obtain ⟨c3,c4,c5⟩:=ze aD.2
    refine ⟨rfl,fun K hK=>?_⟩
    simp only [Sg] at hK ⊢
    go_simp
    exact hK _ _ rfl trivial (zcu hR 4 De De)
   ·have ko:a.eval (.tmp 43)=.pointer (some ⟨g,0,none⟩):=ah 1 43 De Kr rfl
    have m9:=Gd ko
    have ks:a.eval (.tmp 46)=.string ⟨dn.toArray⟩:=ah 4 46 De Kr rfl
    have nj:=Gd ks
    exact zh5
   ·have mZ:a.eval (.tmp 11)=.int .i64 (DC:Nat):=aC 11 rfl
    have rO:=Gd mZ
    exact zia
   ·have fk:a.eval (.tmp 47)=.int .i64 (DC:Nat):=ah 5 47 De Kr rfl
    have iu:=Gd fk
    have ku:a.eval (.tmp 48)=.int .i64 (DC:Nat):=ah 6 48 De Kr rfl
    have nn:=Gd ku
    refine ⟨rfl,fun K hK=>?_⟩
    simp only [Sg] at hK ⊢
    go_simp
    exact hK _ _ rfl trivial (zcu hR 7 De De)
   have fz:a.eval (.tmp 6)=.pointer (some ⟨w.heap.size+1+1,0,none⟩):=aC 6 rfl
   have kp:=Gd fz
   have kt:a.eval (.tmp 42)=.agg #[.slice sa tn tc,.slice sc' cn cc,.slice qa ml qk]:=ah 0 42 De Kr rfl
   have nk:=Gd kt
   exact zh7
  case rest =>
   intro fuel a2 wa hR ha hG
   have ge:a2.tmps.getD 49 undef=.bool true:=hG 7 49 De rfl rfl
   obtain ⟨FF,go⟩:=Ex (a2.tmps.getD 42 undef)
   obtain ⟨FG,gp⟩:=Ex (a2.tmps.getD 43 undef)
   obtain ⟨FH,gr⟩:=Ex (a2.tmps.getD 44 undef)
   obtain ⟨FI,gt⟩:=Ex (a2.tmps.getD 45 undef)
   obtain ⟨FJ,gu⟩:=Ex (a2.tmps.getD 46 undef)
   obtain ⟨Ej,eP⟩:=Ex (a2.tmps.getD 47 undef)
   obtain ⟨FK,gw⟩:=Ex (a2.tmps.getD 48 undef)
   simp only [List.foldl_cons,List.foldl_nil,ge,go,gp,gr,gt,gu,eP,gw,Act.put,Ss] at ha
   clear ge go gp gr gt gu eP gw hG
   subst ha
   refine wpAnyH_ready (rs:=[9]) Kr Sm ?_
   refine AllReadyH.cons (o:=_) rfl (fun KR aM=>?c9k7) AllReadyH.nil
   exact zh3
 have z1:(kd==1)=false:=by simpa using fM
 have gV:zbf L (dn,A)=doL kd L (dn,A):=by unfold doL;rw [if_neg cX,if_neg fM]
 rw [<- gV]
 have k9:=Hy (zrI B0 (ta:=0) tn tc (ca:=0) cn cc sa sc' (.slice la L.length lc) (.slice ea A.length ec) L dn A W1 (zT hE au) j4 (zbc iZ au) (zed qE au) (zdA (hA W1 (ht.2.1.trans (au.mono ht.2.1.size)))) jA hdn)
 have qD:=Hy (fun w' S1 (h:TIn w1 w' sb g S1 L)=>zzN hw h (hA _ h.2.1) jA (show dn.length<=140737488355328 by omega))
 obtain ⟨DC,lM⟩:=Ex (zbe L (dn,A))
 obtain ⟨DL,gx⟩:=Ex (zbf L (dn,A))
 rw [lM,gx] at k9 qD
 rw [gx]
 obtain ⟨en,eL⟩:=Ex A.length
 obtain ⟨lm,cT⟩:=Ex L.length
 rw [eL] at HX aB ⊢
 try rw [eL] at k9
 try rw [eL] at qD
 rw [cT] at HX k9 aB ⊢
 have br:=Hy aB
 clear gV lM gx eL cT ht hE iZ qE hA jA hdn hw aB au bi x0 x1 x2 j4 FM
 obtain ⟨t0,t1,t2⟩:=ze HX.o.1
 obtain ⟨e0,e1,e2⟩:=ze HX.o.2.1
 go_enter func11,ntmps11
 go_wp2_with fail
 try rw [br.o]
 with_reducible refine k9.o.mono ?_
 rintro en' w4 ⟨B4,KH,rfl,ld,bf⟩
 obtain ⟨qa,qk,rfl⟩:=za8 ld
 obtain ⟨ml,fb⟩:=Ex DL.length
 rw [fb] at ld ⊢
 obtain ⟨W5,eQ⟩:=Ex (w4.alloc (.cells #[.slice sa tn tc,.slice sc' cn cc,.slice qa ml qk] 35))
 have ai:=Nb eQ
 have x5:=Nw eQ
 have eR:=bf.trans (ai.mono bf.size)
 have cM:=HX.o.2.2.2.1.trans (eR.mono HX.o.2.2.2.1.size)
 have cS:=Hy (An (zJ HT.o cM) (An (Ob HX.o.2.1 eR) (An (Ob HX.o.2.2.1 eR) (An x5 (An (zT ld ai) (An cM (show w.heap.size+1+1≠w4.heap.size/\w.heap.size+1≠w.heap.size+1+1 by have:=bf.size;have:=HX.o.2.2.2.2;omega)))))))
 have FL:=Hy (show w1.heap.size<=w.heap.size+1+1 by have:=HT.o.2.1.size;omega)
 have mD:=Hy eQ
 clear ld bf fb ai x5 eR cM eQ t0 t1 t2 e0 e1 e2
 go_wp2_with fail
 try rw [mD.o]
 have jB:=Hy (fun l wa (hR:dpR w1 sb g (w.heap.size+1+1) S0 L DL W5.drew #[.slice sa tn tc,.slice sc' cn cc,.slice qa ml qk] B4 (.slice qa ml qk) DL 4 7 l wa)=>show wa.heap[w4.heap.size]?=some (.cells #[.slice sa tn tc,.slice sc' cn cc,.slice qa ml qk] 35 (0,0))/\wa.heap[w.heap.size+1]?=some (.cells #[.int .i64 kd,.string ⟨dn.toArray⟩,.slice ea en ec] 41 (0,0)) from by
  have hS:∀ k,S0 k->zbA W5.drew k:=fun k hk=>(zap (zJ cS.o.1 (Br W5).drew).1 k hk).1
  exact ⟨zeg hR hS (zj cS.o.2.2.2.1 (Br W5).drew (zi cS.o.2.2.2.1)) De (Ne.symm cS.o.2.2.2.2.2.2.1),zeg hR hS (zj cS.o.2.1 (Br W5).drew (zi cS.o.2.1)) De cS.o.2.2.2.2.2.2.2⟩)
 refine wp_region_noPanic ?_
 refine wp_region_held_drew (S:=fun _=>True) Kr trivial (fun _=>?_)
 refine zd2 (f:=10) (A:=fun j=>decide (j<8)) (D:=[57,58,59,60,61,62,63]) (G:=exG [] (fun _ _ _=>True) [.agg #[.slice sa tn tc,.slice sc' cn cc,.slice qa ml qk],.pointer (some ⟨g,0,none⟩),.pointer (some ⟨w.heap.size+1,1,none⟩),.agg #[.string ⟨dn.toArray⟩,.slice ea en ec],.int .i64 (DC:Nat),.int .i64 (DC:Nat),.bool true]) (LIT:=#[true,true,true,true,true,true,true,true,false]) (r:=1) (R:=dpR w1 sb g (w.heap.size+1+1) S0 L DL W5.drew #[.slice sa tn tc,.slice sc' cn cc,.slice qa ml qk] B4 (.slice qa ml qk) DL 4 7) (T:=fun _ _=>True) ?R0 (fun _=>trivial) Kr Kr (fun h=>absurd h Dk) (fun h=>absurd h Dk) Kr (fun h=>absurd h Dk) (fun h=>absurd h Dk) Kr (fun _ _ _ _ _ _ h _=>h) (fun _ _ _ _ _ h=>h) ?op (fun h=>absurd h Dk) (fun l w h=>zcu h 10 De De) ?rest
 case R0=>exact ⟨S0,by rw [if_neg De];exact zJ cS.o.1 (Br W5).drew,Chg.ofBelow (Br _),fun _ h=>.inl h,by rw [if_neg De];exact zj cS.o.2.2.1 (Br W5).drew (zi cS.o.2.2.1),zT cS.o.2.2.2.2.1 (Br W5).drew⟩
 case op =>
  intro i' cG hA l a wa k8 hR aC ah _
  have dr:i'<8:=by simpa using hA
  have aD:=jB.o l wa hR
  rcases (show i'=0\/i'=1\/i'=2\/i'=3\/i'=4\/i'=5\/i'=6\/i'=7 by omega) with rfl | rfl | rfl | rfl | rfl | rfl | rfl | rfl
  ·have tp:a.eval (.tmp 12)=.pointer (some ⟨w4.heap.size,0,none⟩):=aC 12 rfl
   have xW:=Gd tp
   exact zh8
  ·exact zh6
  ·exact zh4
  ·have tE:a.eval (.tmp 59)=.pointer (some ⟨w.heap.size+1,1,none⟩):=ah 2 59 De Kr rfl
   have yG:=Gd tE
   obtain ⟨c0,c1,c2⟩:=ze aD.1
   obtain ⟨c3,c4,c5⟩:=ze aD.2
   exact zh9
  ·have tF:a.eval (.tmp 58)=.pointer (some ⟨g,0,none⟩):=ah 1 58 De Kr rfl
   have yH:=Gd tF
   have dQ:a.eval (.tmp 60)=.agg #[.string ⟨dn.toArray⟩,.slice ea en ec]:=ah 3 60 De Kr rfl
   have cY:=Gd dQ
   exact zh5
  ·have tq:a.eval (.tmp 13)=.int .i64 (DC:Nat):=aC 13 rfl
   have xX:=Gd tq
   exact zkQ
  ·have tG:a.eval (.tmp 61)=.int .i64 (DC:Nat):=ah 4 61 De Kr rfl
   have yI:=Gd tG
   have tH:a.eval (.tmp 62)=.int .i64 (DC:Nat):=ah 5 62 De Kr rfl
   have yJ:=Gd tH
   exact zia
  have fz:a.eval (.tmp 6)=.pointer (some ⟨w.heap.size+1+1,0,none⟩):=aC 6 rfl
  have kp:=Gd fz
  have tI:a.eval (.tmp 57)=.agg #[.slice sa tn tc,.slice sc' cn cc,.slice qa ml qk]:=ah 0 57 De Kr rfl
  have yK:=Gd tI
  exact zh7
 case rest =>
  intro fuel a2 wa hR ha hG
  have ge:a2.tmps.getD 63 undef=.bool true:=hG 6 63 De rfl rfl
  obtain ⟨x57,nx⟩:=Ex (a2.tmps.getD 57 undef)
  obtain ⟨x58,ny⟩:=Ex (a2.tmps.getD 58 undef)
  obtain ⟨x59,nz⟩:=Ex (a2.tmps.getD 59 undef)
  obtain ⟨x60,nA⟩:=Ex (a2.tmps.getD 60 undef)
  obtain ⟨x61,nD⟩:=Ex (a2.tmps.getD 61 undef)
  obtain ⟨x62,nE⟩:=Ex (a2.tmps.getD 62 undef)
  simp only [List.foldl_cons,List.foldl_nil,ge,nx,ny,nz,nA,nD,nE,Act.put,Ss] at ha
  clear ge nx ny nz nA nD nE hG
  subst ha
  refine wpAnyH_ready (rs:=[8]) Kr Sm ?_
  refine AllReadyH.cons (o:=_) rfl (fun KR aM=>?c8k9) AllReadyH.nil
  exact zh3
end Go.Proofs.YtijglbolppkefaaGreatDoor
