/- A deed zoI for in a region: what. -/
import Derived.Test.YtijglbolppkefaaGreatDoorDpC
set_option linter.unusedVariables false
set_option linter.unusedSimpArgs false
set_option maxHeartbeats 25600000
set_option maxRecDepth 100000
namespace Go.Proofs.YtijglbolppkefaaGreatDoor
open Go Go.RowKit Go.Proofs.BerK Go.Proofs.MemK Go.Proofs.UtfK Go.Proofs.RegK Go.Maps Go.WideMaps
variable {w w' w0 w1 : World} {ci g sb : Nat} {S : Nat -> Prop} {L L' : List Ent} {l : Nat -> Bool}
theorem zrQ {B B':Nat} {sv:Value} (h:zU w B g sv S L) (hB:B'<=B):zU w B' g sv S L:=by
 obtain ⟨eb,bb,fe,F,nb,h1,h2,⟨a1,a2,a3,a4⟩,h4,h5,h6,h7⟩:=h
 exact ⟨eb,bb,fe,F,nb,h1,h2,⟨by omega,by omega,a3,by omega⟩,h4,h5,h6,fun p=>⟨(h7 p).1,zaK (h7 p).2.1 hB,(h7 p).2.2⟩⟩
def SzL (L:List Ent):Prop:=∀ e∈L,Cln 12 96 e.2
theorem zkV:SzL []:=fun e he=>by simp at he
theorem zkW (hT:TrL L) (h:SzL L) {e:Ent} (he:Cln 12 96 e.2):SzL (zF e L):=fun y hy=>by
 rcases (zdq hT.up y).1 hy with rfl | hy
 ·exact he
 exact h y hy.1
theorem zic (hT:TrL L) (h:SzL L) {e:Ent} (he:Cln 12 96 (clA e.2)) (kd:Int):SzL (doL kd L e):=by
 unfold doL
 split
 ·unfold zX
  split
  ·exact zkW hT h (e:=clE e) he
  exact h
 split
 ·unfold zaD
  split
  ·exact fun y hy=>h y (List.mem_filter.1 hy).1
  exact h
 unfold zbf
 split
 ·exact zkW hT h (e:=clE e) he
 exact h
theorem zf2 (h:SzL L):∀ e∈L,e.2.length<=100000/\∀ a∈e.2,a.2.length<=1000000:=fun e he=>by
 obtain ⟨h1,h2⟩:=(h e he).few
 exact ⟨by omega,fun a ha=>by have:=(h2 a ha).2.1;omega⟩
theorem zid {dn:Bs} {A:List Atr} (h:zkm dn A):Cln 12 96 (clA A)/\zcz A/\dn.length<=300:=by
 obtain ⟨h1,h2,h3⟩:=h
 have hg:za3 12 8 A:=⟨h2,fun a ha=>by
  obtain ⟨i,hi,rfl⟩:=List.getElem_of_mem ha
  obtain ⟨k1,k2,k3⟩:=h3 i hi
  refine ⟨by omega,k2,fun s hs=>?_⟩
  obtain ⟨j,hj,rfl⟩:=List.getElem_of_mem hs
  have:=k3 j hj
  omega⟩
 exact ⟨zAr (zAq hg) Om Om,⟨zyL hg Om Om,zjV hg Om Om⟩,h1⟩
def dqR (w1:World) (sb g:Nat) (S:Nat->Prop) (L L':List Ent) (w0:World) (ci:Nat) (l:Nat->Bool) (w:World):Prop :=
 ∃ S',TIn w1 w sb g S' (if l ci=true then L' else L)/\Chg S w0 w/\∀ k,S' k->S k\/w0.heap.size<=k
theorem zaQ (h:dqR w1 sb g S L L' w0 ci l w) (hb:Below w.heap.size w w') (i:Nat) (h1:i≠ci):dqR w1 sb g S L L' w0 ci (fun j=>if i=j then true else l j) w':=by
 obtain ⟨S',a1,a2,a3⟩:=h
 exact ⟨S',by simp only [if_neg h1];exact zJ a1 hb,a2.below (hb.mono a2.size),a3⟩
theorem zkX (h:dqR w1 sb g S L L' w0 ci l w) (hl:l ci=false):∃ S1,TIn w1 w sb g S1 L/\∀ S2 w',TIn w1 w' sb g S2 L'->Chg S1 w w'->(∀ k,S2 k->S1 k\/w.heap.size<=k)->dqR w1 sb g S L L' w0 ci (fun j=>if ci=j then true else l j) w':=by
 obtain ⟨S',a1,a2,a3⟩:=h
 rw [hl,if_neg De] at a1
 refine ⟨S',a1,fun S2 w' b1 b2 b3=>⟨S2,by simpa using b1,a2.trans b2 (fun k hk hS=>?_),fun k hk=>?_⟩⟩
 ·rcases a3 k hS with q | q
  ·exact q
  omega
 rcases b3 k hk with q | q
 ·exact a3 k q
 exact .inr (Nat.le_trans a2.size q)
theorem zkY (h:dqR w1 sb g S L L' w0 ci l w) (hS:∀ k,S k->zbA w0 k) {b:Nat} {cs:Array Value} {t:TypeId} {m:Nat × Nat} (hb:w0.heap[b]?=some (.cells cs t m)) (ht:t≠79):w.heap[b]?=some (.cells cs t m):=by
 obtain ⟨S',a1,a2,a3⟩:=h
 refine (a2.block b (zhu hb) (fun hq=>?_)).trans hb
 rcases hS b hq with ⟨es,c,hm⟩ | ⟨cs',m',hm⟩
 ·rw [hb] at hm;cases hm
 rw [hb] at hm
 injection hm with hm
 injection hm with _ h5 _
 exact ht h5
def dqT (w w':World):Prop:=(∀ B lv M,zN w B lv M->zN w' B lv M)/\∀ (b:Nat) cs,w.heap[b]?=some (.cells cs 35 (0,0))->w'.heap[b]?=some (.cells cs 35 (0,0))
theorem zaR (h:Below w.heap.size w w'):dqT w w':=⟨fun B lv M hE=>zT hE h,fun b cs hb=>Ob hb h⟩
theorem zkZ (h:TIn w1 w sb g S L) (hc:Chg S w w'):dqT w w':=⟨fun B lv M hE=>ze1 (fun k hk=>(zap h.1 k hk).1) hE hc,fun b cs hb=>zd9 h hc hb De⟩
def qDo (tv cv:Value) (m:Nat) (M:List Ent) (v:Value) (w:World):Prop:=∃ B a k,v=.tuple #[.agg #[tv,cv,.slice a m k],.bool true]/\zN w B (.slice a m k) M
def qDt (tv cv:Value) (m:Nat) (M:List Ent) (v:Value) (w:World):Prop:=∃ B a k,v=.agg #[tv,cv,.slice a m k]/\zN w B (.slice a m k) M
def qDb (B:Nat) (v:Value) (w:World):Prop:=∃ b,v=.pointer (some ⟨b,0,none⟩)/\w.heap[b]?=some (.cells #[.slice none 0 0,.slice none 0 0,.slice none 0 0] 35 (0,0))/\B<=b
def dqP (tv cv:Value) (m:Nat) (M:List Ent) (B:Nat):Nat->Value->World->Prop
 | 8=>qDt tv cv m M
 | 10=>qDb B
 | _=>qDo tv cv m M
theorem zk0 (tv cv:Value) (m:Nat) (M:List Ent) (B:Nat):∀ (j:Nat) (v:Value) (w w':World),dqP tv cv m M B j v w->dqT w w'->dqP tv cv m M B j v w':=by
 intro j v w w' h ht
 have h1:qDo tv cv m M v w->qDo tv cv m M v w':=fun ⟨B,a,k,e,h⟩=>⟨B,a,k,e,ht.1 _ _ _ h⟩
 have h2:qDt tv cv m M v w->qDt tv cv m M v w':=fun ⟨B,a,k,e,h⟩=>⟨B,a,k,e,ht.1 _ _ _ h⟩
 have h3:qDb B v w->qDb B v w':=fun ⟨b,e,h,hB⟩=>⟨b,e,ht.2 _ _ h,hB⟩
 unfold dqP at h ⊢
 split at h
 ·exact h2 h
 ·exact h3 h
 exact h1 h
end Go.Proofs.YtijglbolppkefaaGreatDoor
