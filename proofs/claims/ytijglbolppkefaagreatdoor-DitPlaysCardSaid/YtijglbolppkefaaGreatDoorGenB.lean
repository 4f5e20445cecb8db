/- Objects of a program's own in. -/
import Derived.Test.YtijglbolppkefaaGreatDoorGenA
import Derived.Laws.CopyOwn
import Derived.Deep.MidRow
import Derived.Maps.AppendAt
import Derived.Laws.AppendOwnNone
import Derived.Lib.AppendStr
import Derived.Deep.RegionLaw
set_option linter.unusedVariables false
set_option linter.unusedSimpArgs false
set_option maxHeartbeats 25600000
set_option maxRecDepth 100000
namespace Go.Proofs.MemK
open Go Go.RowKit Go.Proofs.BerK Go.Lib
structure Chg (S:Nat->Prop) (w w':World):Prop where
 os:w'.os=w.os
 tape:w'.tape=w.tape
 output:w'.output=w.output
 size:w.heap.size<=w'.heap.size
 block:∀ k,k<w.heap.size->¬ S k->w'.heap[k]? = w.heap[k]?
theorem Chg.refl (S:Nat->Prop) (w:World):Chg S w w:=⟨rfl,rfl,rfl,Nat.le_refl _,fun _ _ _=>rfl⟩
theorem Chg.trans {S T:Nat->Prop} {a b c:World} (h:Chg S a b) (k:Chg T b c) (hs:∀ i,i<a.heap.size->T i->S i):Chg S a c :=
 ⟨k.os.trans h.os,k.tape.trans h.tape,k.output.trans h.output,Nat.le_trans h.size k.size,
  fun i hi hn=>(k.block i (Nat.lt_of_lt_of_le hi h.size) (fun ht=>hn (hs i hi ht))).trans (h.block i hi hn)⟩
theorem Chg.mono {S T:Nat->Prop} {a b:World} (h:Chg S a b) (hs:∀ i,i<a.heap.size->S i->T i):Chg T a b :=
 ⟨h.os,h.tape,h.output,h.size,fun i hi hn=>h.block i hi (fun k=>hn (hs i hi k))⟩
theorem Chg.alloc {S:Nat->Prop} {a w:World} (h:Chg S a w) (o:Obj):Chg S a (w.alloc o) :=
 h.trans (T:=S) ⟨rfl,rfl,rfl,by simp,fun k hk _=>Below.heap_alloc _ _ _ hk⟩ (fun _ _=>id)
theorem Chg.setCell {S:Nat->Prop} {a w:World} (h:Chg S a w) {p:Addr} (hp:p.block<a.heap.size->S p.block) (u:Value):Chg S a (w.setCell p u) :=
 h.trans (T:=fun k=>k=p.block) ⟨rfl,rfl,rfl,by simp [World.setCell],fun k _ hn=>Below.heap_setCell _ _ _ _ hn⟩ (fun i hi e=>by subst e;exact hp hi)
theorem Chg.drew {S:Nat->Prop} {a w:World} (h:Chg S a w):Chg S a w.drew:=⟨h.os,h.tape,h.output,h.size,h.block⟩
theorem Chg.drewN {S:Nat->Prop} {a w:World} (h:Chg S a w) (n:Nat):Chg S a (w.drewN n):=⟨h.os,h.tape,h.output,h.size,h.block⟩
theorem Chg.ofBelow {S:Nat->Prop} {w w':World} (h:Below w.heap.size w w'):Chg S w w':=⟨h.os,h.tape,h.output,h.size,fun k hk _=>h.block k hk⟩
theorem Chg.below {S:Nat->Prop} {a b c:World} (h:Chg S a b) (k:Below a.heap.size b c):Chg S a c :=
 ⟨k.os.trans h.os,k.tape.trans h.tape,k.output.trans h.output,Nat.le_trans h.size k.size,fun i hi hn=>(k.block i hi).trans (h.block i hi hn)⟩
theorem Chg.ofGrown {w w':World} {row:Option Nat} (h:w.grownBy w' row):Chg (fun k=>some k=row) w w':=⟨h.os,h.tape,h.output,h.size,fun k hk hn=>h.block k hk hn⟩
theorem Chg.toBelow {S:Nat->Prop} {B:Nat} {w w':World} (h:Chg S w w') (hB:B<=w.heap.size) (hs:∀ k,k<w.heap.size->S k->B<=k):Below B w w' :=
 ⟨h.os,h.tape,h.output,h.size,fun k hk=>h.block k Om (fun eV=>by have:=hs k Om eV;omega)⟩
theorem zz {S:Nat->Prop} {w w':World} {B:Nat} {e:TypeId} {size:Nat} {v:Value} {n:Nat} {xs:List Value} (h:w.ownsRow B e size v n xs) (hc:Chg S w w') (hs:∀ k,v.ownBlock=some k->¬ S k):w'.ownsRow B e size v n xs:=by
 refine ⟨h.1,?_⟩
 rcases h.2 with hn | ⟨g,cap,cur,rfl,xi,hg,rest⟩
 ·exact .inl hn
 exact .inr ⟨g,cap,cur,rfl,xi,by rw [hc.block g (Array.getElem?_eq_some_iff.1 hg).1 (hs g rfl)];exact hg,rest⟩
theorem zq {w:World} {g:Nat} {cs:Array Value} {t:TypeId} (h:w.heap[g]?=some (.cells cs t (0,0))) (i:Nat) (v:Value) (hv:cs[i]?=some v):w.cell? ⟨g,i,none⟩=some v:=by
 rw [cell_of_row w g i cs t (0,0) h];exact hv
theorem zc0 {w:World} {g:Nat} {a b c d:Value} {t:TypeId} (h:w.heap[g]?=some (.cells #[a,b,c,d] t (0,0))):w.cell? ⟨g,0,none⟩=some a/\w.cell? ⟨g,1,none⟩=some b/\w.cell? ⟨g,2,none⟩=some c/\w.cell? ⟨g,3,none⟩=some d :=
 ⟨zq h 0 a rfl,zq h 1 b rfl,zq h 2 c rfl,zq h 3 d rfl⟩
theorem ze {w:World} {g:Nat} {a b c:Value} {t:TypeId} (h:w.heap[g]?=some (.cells #[a,b,c] t (0,0))):w.cell? ⟨g,0,none⟩=some a/\w.cell? ⟨g,1,none⟩=some b/\w.cell? ⟨g,2,none⟩=some c :=
 ⟨zq h 0 a rfl,zq h 1 b rfl,zq h 2 c rfl⟩
theorem zc {w:World} {g:Nat} {cs:Array Value} {t:TypeId} (h:w.heap[g]?=some (.cells cs t (0,0))) (i:Nat):w.frozen? ⟨g,i,none⟩=false:=by
 simp [World.frozen?,h]
theorem zi {w:World} {g:Nat} {o:Obj} (h:w.heap[g]?=some o):g<w.heap.size:=(Array.getElem?_eq_some_iff.1 h).1
theorem zH {w:World} {g:Nat} {cs:Array Value} {t:TypeId} (h:w.heap[g]?=some (.cells cs t (0,0))) (i:Nat) (v:Value):(w.setCell ⟨g,i,none⟩ v).heap[g]?=some (.cells (cs.setIfInBounds i v) t (0,0)) :=
 heap_setCell_same w g i cs t v h
theorem zdc {w:World} {g:Nat} {o:Obj} (h:w.heap[g]?=some o) {p:Addr} (hp:g≠p.block) (v:Value):(w.setCell p v).heap[g]?=some o:=by
 rw [Below.heap_setCell w p v g hp];exact h
theorem za0 {w:World} {g:Nat} {o:Obj} (h:w.heap[g]?=some o) (x:Obj):(w.alloc x).heap[g]?=some o:=by
 rw [Below.heap_alloc w x g (zi h)];exact h
theorem zV {S:Nat->Prop} {w w':World} {g:Nat} {o:Obj} (h:w.heap[g]?=some o) (hc:Chg S w w') (hs:¬ S g):w'.heap[g]?=some o:=by
 rw [hc.block g (zi h) hs];exact h
theorem zj {w w':World} {B g:Nat} {o:Obj} (h:w.heap[g]?=some o) (hc:Below B w w') (hs:g<B):w'.heap[g]?=some o:=by
 rw [hc.block g hs];exact h
theorem Ob {w w' : World} {g : Nat} {o : Obj} (h : w.heap[g]? = some o) (hb : Below w.heap.size w w') : w'.heap[g]? = some o := zj h hb (zi h)
theorem zbR {w:World} {g:Nat} {a b c:Value} {t:TypeId} (h:w.heap[g]?=some (.cells #[a,b,c] t (0,0))) (a' b' c':Value) :
  (((w.setCell ⟨g,0,none⟩ a').setCell ⟨g,1,none⟩ b').setCell ⟨g,2,none⟩ c').heap[g]?=some (.cells #[a',b',c'] t (0,0)) :=
 zH (zH (zH h 0 a') 1 b') 2 c'
theorem zbV {B:Nat} {a w:World} (h:Below B a w) {g:Nat} (hg:B<=g) (x y z:Value):Below B a (((w.setCell ⟨g,0,none⟩ x).setCell ⟨g,1,none⟩ y).setCell ⟨g,2,none⟩ z) :=
 ((h.setCell (p:=⟨g,0,none⟩) hg x).setCell (p:=⟨g,1,none⟩) hg y).setCell (p:=⟨g,2,none⟩) hg z
def Mid (w:World) (B:Nat) (e:TypeId) (v:Value) (l:Bs):Prop :=
 (v=.slice none 0 0/\l=[]) \/
 ∃ g o cap cur,v=.slice (some ⟨g,o,none⟩) l.length cap/\B<=g/\w.heap[g]?=some (.cells cur e (0,0))/\l.length<=cap/\o+cap<=cur.size/\cap<=maxLen/\(cur.toList.drop o).take l.length=bc l
theorem zjc (w:World) (B:Nat) (e:TypeId):Mid w B e (.slice none 0 0) []:=.inl ⟨rfl,rfl⟩
theorem znG {w:World} {B:Nat} {e:TypeId} {v:Value} {l:Bs} (h:w.ownsRow B e 1 v l.length (bc l)):Mid w B e v l:=by
 rcases h.2 with ⟨rfl,h0⟩ | ⟨g,cap,cur,rfl,hB,hg,hn,hm,hs,ht⟩
 ·exact .inl ⟨rfl,List.eq_nil_of_length_eq_zero h0⟩
 exact .inr ⟨g,0,cap,cur,rfl,hB,hg,hn,by omega,hm,by simpa using ht⟩
theorem zwa (l:Bs) (j:Nat) (h:j<l.length):(bc l)[j]?=some (.int .u8 l[j].toNat):=by simp [bc,h]
theorem zwb {w:World} {B:Nat} {e:TypeId} {g o cap:Nat} {n:Nat} {l:Bs} (h:Mid w B e (.slice (some ⟨g,o,none⟩) n cap) l) (j:Nat) (hj:j<l.length):w.cell? ⟨g,o+j,none⟩=some (.int .u8 l[j].toNat):=by
 rcases h with ⟨h,_⟩ | ⟨g',o',cap',cur,h,hB,hg,hn,hs,hm,ht⟩
 ·cases h
 cases h
 rw [cell_of_row w g (o+j) cur e (0,0) hg,<- zwa l j hj,<- ht,List.getElem?_take,if_pos hj,List.getElem?_drop]
 simp
theorem znH {w:World} {B:Nat} {e:TypeId} {g o cap n:Nat} {l:Bs} (h:Mid w B e (.slice (some ⟨g,o,none⟩) n cap) l) (k:Nat) (hk:k<=n):Mid w B e (.slice (some ⟨g,o,none⟩) k cap) (l.take k):=by
 rcases h with ⟨h,_⟩ | ⟨g',o',cap',cur,h,hB,hg,hn,hs,hm,ht⟩
 ·cases h
 cases h
 have hl:(l.take k).length=k:=by simp;omega
 refine .inr ⟨g,o,cap,cur,by rw [hl],hB,hg,by omega,hs,hm,?_⟩
 rw [hl,show bc (l.take k)=(bc l).take k by simp [bc,List.map_take],<- ht,List.take_take,Nat.min_eq_left hk]
theorem zfy {P:Program} {w:World} {B src dst e:TypeId} {v:Value} {l:Bs} (hs:P.underlying src=some (.slice e)) (he:P.underlying e=some (.int .u8)) (hd:P.underlying dst=some .string)
  (h:Mid w B e v l):(convert src dst v).run P w=.ok (.string ⟨l.toArray⟩) w:=by
 rcases h with ⟨rfl,rfl⟩ | ⟨g,o,cap,cur,rfl,h2⟩
 ·exact run_convert_bytes_nil (P:=P) (w:=w) src e hs he 0 0 dst hd
 exact run_convert_bytes_back (P:=P) w src dst e ⟨g,o,none⟩ cap l hs he hd (fun j hj=>by
  rw [Addr.add_mid]
  exact zwb (B:=B) (.inr ⟨g,o,cap,cur,rfl,h2⟩) j hj)
theorem znI (s:ByteArray):strCells s=bc s.data.toList:=by simp [strCells,bc]
theorem zaM {P:Program} {w:World} {ops:Array Oper} {rest:List Oper} {o:Oper} {a:Act} {Q:Exit->Act->World->Prop} (dJ:o.guard=none) (s x:Operand) (t e:TypeId)
  (ho:o.op=.call { callee:=.builtin .append,args:=#[s,x],argTypes:=#[t,t] })
  (base size bytes:Nat) (z:Value) (h5:(P.info? e).map (fun i=>(i.zero,i.size,i.bytes))=some (some z,size,bytes)) (ht:P.underlying t=some (.slice e)) (jf:z.cells.size=size) (aW:0<size)
  (us:List Value) (qg:us.length=1*size) (hu:∀ u∈us,u.oneCell'=true)
  (v:Value) (n:Nat) (xs:List Value) (hs:a.eval s=v) (g:Nat) (hx:a.eval x=.slice (some ⟨g,0,none⟩) 1 1) (hg:g=w.heap.size) (ab:w.ownsRow base e size v n xs)
  (mf:n+1<=maxLen) (cd:(n+1)*bytes<=140737488355328) (c8:base<=w.heap.size)
  (h:∀ v' w',w'.ownsRow base e size v' (n+1) (xs++us)->Chg (fun k=>some k=v.ownBlock) w w'->(v'.ownBlock=v.ownBlock\/∃ k,v'.ownBlock=some k/\w.heap.size<=k)->wpList P ops Q rest (a.put o.dst v') w') :
  wpList P ops Q (o :: rest) a (w.alloc (.cells us.toArray e)):=by
 subst hg
 obtain ⟨i,hi,bO,bi,ce⟩:=info_parts h5
 refine wpList_append_own_at (w.alloc (.cells us.toArray e)) dJ s x t ho base e i z size bytes ht hi bO bi ce jf aW v n xs hs (ab.alloc _) ⟨w.heap.size,0,none⟩ 1 1 us hx qg (zeB w us e) hu mf cd So ?_
 intro v' w' h1 h2 _ h4
 refine h v' w' h1 (((Chg.refl _ w).alloc _).trans (Chg.ofGrown h2) Fi) ?_
 rcases h4 with h4 | h4
 ·exact .inl h4
 exact .inr ⟨_,h4,by simp⟩
theorem zwc {P:Program} {w:World} {ops:Array Oper} {rest:List Oper} {o:Oper} {a:Act} {Q:Exit->Act->World->Prop} (dJ:o.guard=none) (s x:Operand) (t e:TypeId)
  (ho:o.op=.call { callee:=.builtin .append,args:=#[s,x],argTypes:=#[t,t] })
  (base size bytes:Nat) (z:Value) (h5:(P.info? e).map (fun i=>(i.zero,i.size,i.bytes))=some (some z,size,bytes)) (ht:P.underlying t=some (.slice e)) (jf:z.cells.size=size) (aW:0<size)
  (v:Value) (n:Nat) (xs:List Value) (hs:a.eval s=v) (ab:w.ownsRow base e size v n xs)
  (vx:Value) (b2 m:Nat) (us:List Value) (hx:a.eval x=vx) (bg:w.ownsRow b2 e size vx m us) (hu:∀ u∈us,u.oneCell'=true)
  (mf:n+m<=maxLen) (cd:(n+m)*bytes<=140737488355328) (c8:base<=w.heap.size)
  (h:∀ v' w',w'.ownsRow base e size v' (n+m) (xs++us)->Chg (fun k=>some k=v.ownBlock) w w'->(v'.ownBlock=v.ownBlock\/∃ k,v'.ownBlock=some k/\w.heap.size<=k)->wpList P ops Q rest (a.put o.dst v') w') :
  wpList P ops Q (o :: rest) a w:=by
 obtain ⟨i,hi,bO,bi,ce⟩:=info_parts h5
 have lA:=bg
 rcases lA.2 with ⟨rfl,rfl⟩ | ⟨g,cap,cur,rfl,_,hg,_⟩
 ·obtain rfl:us=[]:=List.eq_nil_of_length_eq_zero (by have:=lA.1;omega)
  refine wpList_append_own_none dJ s x t ho base e i size ht hi v n xs hs ab hx ?_
  exact h v w (by simpa using ab) (Chg.refl _ _) (.inl rfl)
 refine wpList_append_own_at w dJ s x t ho base e i z size bytes ht hi bO bi ce jf aW v n xs hs ab ⟨g,0,none⟩ m cap us hx lA.1 (lA.cells (g:=g) rfl) hu mf cd c8 ?_
 intro v' w' h1 h2 _ h4
 refine h v' w' h1 (Chg.ofGrown h2) ?_
 rcases h4 with h4 | h4
 ·exact .inl h4
 exact .inr ⟨_,h4,Nat.le_refl _⟩
theorem zcD (l:List (Bs)):∀ v∈sc l,v.oneCell'=true:=by
 intro v hv
 obtain ⟨b,_,rfl⟩:=List.mem_map.1 hv
 rfl
theorem zfz (a b:List (Bs)):sc (a++b)=sc a++sc b:=by simp [sc]
end Go.Proofs.MemK
namespace Go.Proofs.MemK
open Go Go.RowKit Go.Proofs.BerK
def zbl (w:World) (size:Nat) (v:Value) (m:Nat) (us:List Value):Prop :=
 us.length=m*size/\((v=.slice none 0 0/\m=0)\/∃ ad c,v=.slice (some ad) m c/\∀ j u,us[j]?=some u->w.cell? (ad.add j)=some u)
theorem zwd {w:World} {B:Nat} {e:TypeId} {size:Nat} {v:Value} {n:Nat} {xs:List Value} (h:w.ownsRow B e size v n xs):zbl w size v n xs:=by
 refine ⟨h.1,?_⟩
 rcases h.2 with ⟨rfl,rfl⟩ | ⟨g,cap,cur,rfl,_,hg,_⟩
 ·exact .inl ⟨rfl,rfl⟩
 exact .inr ⟨_,cap,rfl,h.cells (g:=g) rfl⟩
theorem zdt {w w':World} {size:Nat} {v:Value} {m:Nat} {us:List Value} (h:zbl w size v m us) (hb:Below w.heap.size w w'):zbl w' size v m us:=by
 refine ⟨h.1,?_⟩
 rcases h.2 with h2 | ⟨ad,c,rfl,h2⟩
 ·exact .inl h2
 refine .inr ⟨ad,c,rfl,fun j u hj=>?_⟩
 have:=h2 j u hj
 exact (hb.cell (p:=ad.add j) (World.block_lt_of_cell? w _ this)).trans this
theorem zdu (w:World) (size:Nat):zbl w size (.slice none 0 0) 0 []:=⟨by simp,.inl ⟨rfl,rfl⟩⟩
theorem znJ {w:World} {B:Nat} {e:TypeId} {size:Nat} {g n cap:Nat} {xs:List Value} (h:w.ownsRow B e size (.slice (some ⟨g,0,none⟩) n cap) n xs) (k:Nat) (hk:k<=n):zbl w size (.slice (some ⟨g,0,none⟩) k cap) k (xs.take (k*size)):=by
 have hl:=h.1
 have:k*size<=n*size:=Nat.mul_le_mul_right _ hk
 refine ⟨by rw [List.length_take];omega,.inr ⟨_,_,rfl,fun j u hj=>?_⟩⟩
 rw [List.getElem?_take] at hj
 split at hj
 ·exact h.cells (g:=g) rfl j u hj
 cases hj
theorem znK {w:World} {B:Nat} {e:TypeId} {size:Nat} {g n cap:Nat} {xs:List Value} (h:w.ownsRow B e size (.slice (some ⟨g,0,none⟩) n cap) n xs) (k c:Nat) (hk:k<=n):zbl w size (.slice (some ⟨g,k*size,none⟩) (n - k) c) (n - k) (xs.drop (k*size)):=by
 have hl:=h.1
 refine ⟨by rw [List.length_drop,hl,Nat.sub_mul],.inr ⟨_,_,rfl,fun j u hj=>?_⟩⟩
 rw [List.getElem?_drop] at hj
 have:=h.cells (g:=g) rfl _ u hj
 rw [show (⟨g,k*size,none⟩:Addr).add j=(⟨g,0,none⟩:Addr).add (k*size+j) by
  unfold Addr.add
  by_cases h0:j=0
  ·by_cases h1:k*size=0 <;> simp [h0,h1]
  simp [h0]]
 exact this
theorem zaf {P:Program} {w:World} {ops:Array Oper} {rest:List Oper} {o:Oper} {a:Act} {Q:Exit->Act->World->Prop} (dJ:o.guard=none) (s x:Operand) (t e:TypeId)
  (ho:o.op=.call { callee:=.builtin .append,args:=#[s,x],argTypes:=#[t,t] })
  (base size bytes:Nat) (z:Value) (h5:(P.info? e).map (fun i=>(i.zero,i.size,i.bytes))=some (some z,size,bytes)) (ht:P.underlying t=some (.slice e)) (jf:z.cells.size=size) (aW:0<size)
  (v:Value) (n:Nat) (xs:List Value) (hs:a.eval s=v) (ab:w.ownsRow base e size v n xs)
  (vx:Value) (m:Nat) (us:List Value) (hx:a.eval x=vx) (dD:zbl w size vx m us) (hu:∀ u∈us,u.oneCell'=true)
  (mf:n+m<=maxLen) (cd:(n+m)*bytes<=140737488355328) (c8:base<=w.heap.size)
  (h:∀ v' w',w'.ownsRow base e size v' (n+m) (xs++us)->Chg (fun k=>some k=v.ownBlock) w w'->(v'.ownBlock=v.ownBlock\/∃ k,v'.ownBlock=some k/\w.heap.size<=k)->wpList P ops Q rest (a.put o.dst v') w') :
  wpList P ops Q (o :: rest) a w:=by
 obtain ⟨i,hi,bO,bi,ce⟩:=info_parts h5
 rcases dD.2 with ⟨rfl,rfl⟩ | ⟨ad,c,rfl,hc⟩
 ·obtain rfl:us=[]:=List.eq_nil_of_length_eq_zero (by have:=dD.1;omega)
  refine wpList_append_own_none dJ s x t ho base e i size ht hi v n xs hs ab hx ?_
  exact h v w (by simpa using ab) (Chg.refl _ _) (.inl rfl)
 refine wpList_append_own_at w dJ s x t ho base e i z size bytes ht hi bO bi ce jf aW v n xs hs ab ad m c us hx dD.1 hc hu mf cd c8 ?_
 intro v' w' h1 h2 _ h4
 refine h v' w' h1 (Chg.ofGrown h2) ?_
 rcases h4 with h4 | h4
 ·exact .inl h4
 exact .inr ⟨_,h4,Nat.le_refl _⟩
theorem zbm {B:Nat} {e:TypeId} {size n:Nat} {v:Value} {xs:List Value} {w0 w w':World} (hb:Below B w0 w) (hs:B<=w.heap.size) (h:w.ownsRow B e size v n xs) (hc:Chg (fun k=>some k=v.ownBlock) w w'):Below B w0 w' :=
 hb.trans (hc.toBelow hs (fun k _ hk=>(h.lt k hk.symm).1))
theorem zaj {P:Program} {w:World} {ops:Array Oper} {rest:List Oper} {o:Oper} {a:Act} {Q:Exit->Act->World->Prop} (dJ:o.guard=none) (s x:Operand) (t e:TypeId)
  (ho:o.op=.call { callee:=.builtin .append,args:=#[s,x],argTypes:=#[t,t] })
  (base size bytes:Nat) (z:Value) (h5:(P.info? e).map (fun i=>(i.zero,i.size,i.bytes))=some (some z,size,bytes)) (ht:P.underlying t=some (.slice e)) (jf:z.cells.size=size) (aW:0<size)
  (m:Nat) (us:List Value) (qg:us.length=m*size) (hu:∀ u∈us,u.oneCell'=true)
  (v:Value) (n:Nat) (xs:List Value) (hs:a.eval s=v) (g:Nat) (hx:a.eval x=.slice (some ⟨g,0,none⟩) m m) (hg:g=w.heap.size) (ab:w.ownsRow base e size v n xs)
  (mf:n+m<=maxLen) (cd:(n+m)*bytes<=140737488355328) (c8:base<=w.heap.size)
  (h:∀ v' w',w'.ownsRow base e size v' (n+m) (xs++us)->Below base w w'->wpList P ops Q rest (a.put o.dst v') w') :
  wpList P ops Q (o :: rest) a (w.alloc (.cells us.toArray e)):=by
 subst hg
 obtain ⟨i,hi,bO,bi,ce⟩:=info_parts h5
 refine wpList_append_own (w.alloc (.cells us.toArray e)) dJ s x t ho base e i z size bytes ht hi bO bi ce jf aW v n xs hs (ab.alloc _) ⟨w.heap.size,0,none⟩ m m us hx qg (zeB w us e) hu mf cd So ?_
 intro v' w' h1 h2 _
 exact h v' w' h1 (zi7 (ab.alloc _) Lr So h2 ((Br _).alloc c8 _))
theorem znL {P:Program} {ops:Array Oper} {o:Oper} {a:Act} {w1:World} {K:Act->World->Prop} {Q:Exit->Act->World->Prop} {E:Prop}
  (dJ:o.guard=none) (s x:Operand) (t e:TypeId) (ho:o.op=Op.call { callee:=Callee.builtin Builtin.append,args:=#[s,x],argTypes:=#[t,t] })
  (base size bytes:Nat) (z:Value) (h5:(P.info? e).map (fun i=>(i.zero,i.size,i.bytes))=some (some z,size,bytes)) (ht:P.underlying t=some (.slice e)) (jf:z.cells.size=size) (aW:0<size)
  (w:World) (m:Nat) (us:List Value) (f8:w1=w.alloc (.cells us.toArray e)) (qg:us.length=m*size) (hu:∀ u∈us,u.oneCell'=true)
  (v:Value) (n:Nat) (xs:List Value) (hs:a.eval s=v) (g:Nat) (hx:a.eval x=.slice (some ⟨g,0,none⟩) m m) (hg:g=w.heap.size) (ab:w.ownsRow base e size v n xs)
  (mf:n+m<=maxLen) (cd:(n+m)*bytes<=140737488355328) (c8:base<=w.heap.size)
  (h:∀ v' w',w'.ownsRow base e size v' (n+m) (xs++us)->Below base w w'->K (a.put o.dst v') w') :
  if Region.wanted o (yielded ops a.tmps)=true then Oper.wp P o a w1 K Q else E:=by
 have hw:Region.wanted o (yielded ops a.tmps)=true:=by simp [Region.wanted,dJ]
 rw [if_pos hw]
 subst hg f8
 obtain ⟨i,hi,bO,bi,ce⟩:=info_parts h5
 refine wp_append_own (w.alloc (.cells us.toArray e)) s x t ho base e i z size bytes ht hi bO bi ce jf aW v n xs hs (ab.alloc _) ⟨w.heap.size,0,none⟩ m m us hx qg (zeB w us e) hu mf cd So ?_
 intro v' w' h1 h2 _
 exact h v' w' h1 (zi7 (ab.alloc _) Lr So h2 ((Br _).alloc c8 _))
theorem znM {P:Program} {ops:Array Oper} {o:Oper} {a:Act} {w:World} {K:Act->World->Prop} {Q:Exit->Act->World->Prop} {E:Prop}
  (dJ:o.guard=none) (sl x:Operand) (t u e:TypeId) (ho:o.op=Op.call { callee:=Callee.builtin Builtin.append,args:=#[sl,x],argTypes:=#[t,u] })
  (base:Nat) (h5:(P.info? e).map (fun i=>(i.zero,i.size,i.bytes))=some (some (.int .u8 0),1,1)) (ht:P.underlying t=some (.slice e)) (hu:P.underlying u=some .string)
  (v:Value) (X:Bs) (hs:a.eval sl=v) (ab:w.ownsRow base e 1 v X.length (bc X)) (s:ByteArray) (hx:a.eval x=.string s)
  (bD:X.length+s.size<=140737488355328) (c8:base<=w.heap.size)
  (h:∀ v' w',w'.ownsRow base e 1 v' (X++s.data.toList).length (bc (X++s.data.toList))->Below base w w'->Chg (fun k=>some k=v.ownBlock) w w'->K (a.put o.dst v') w') :
  if Region.wanted o (yielded ops a.tmps)=true then Oper.wp P o a w K Q else E:=by
 have hw:Region.wanted o (yielded ops a.tmps)=true:=by simp [Region.wanted,dJ]
 rw [if_pos hw]
 obtain ⟨i,hi,bO,bi,ce⟩:=info_parts h5
 obtain ⟨v',w',hr,h2,h3,h4⟩:=Lib.run_append_own_string (P:=P) w base t u o.type e i ht hu hi bO bi ce v X.length (bc X) ab s Mx bD c8
 unfold Oper.wp execOp
 simp only [ho,resolve,invoke,builtin,Sem.run_bind,Sem.run_pure,Result.andThen_ok,List.map_toArray,List.map_cons,List.map_nil,hs,hx,hr]
 refine h v' w' ?_ (zi7 ab Lr c8 h3 (Br _)) (Chg.ofGrown h3)
 rw [Lib.strCells] at h2
 have e:(X++s.data.toList).length=X.length+s.size:=by rw [List.length_append,Array.length_toList];rfl
 rw [e,zbU]
 exact h2
def zaq (u v:Value):Prop:=∀ k,u.ownBlock=some k->v.ownBlock≠some k
theorem zaq.symm {u v:Value} (h:zaq u v):zaq v u:=fun k h1 h2=>h k h2 h1
theorem znN (u:Value):zaq u (.slice none 0 0):=fun k _ h=>by cases h
theorem zjd (u:Value):zaq (.slice none 0 0) u:=fun k h _=>by cases h
theorem zdd {w:World} {B:Nat} {e size n:Nat} {u v v':Value} {xs:List Value} (h:zaq u v) (hu:w.ownsRow B e size u n xs) (hv:v'.ownBlock=v.ownBlock\/∃ k,v'.ownBlock=some k/\w.heap.size<=k):zaq u v':=by
 intro k h1 h2
 rcases hv with hv | ⟨q,hv,hq⟩
 ·rw [hv] at h2;exact h k h1 h2
 rw [hv] at h2;injection h2 with h2
 have:=(hu.lt k h1).2
 omega
def zcp (w:World) (B:Nat) (e2 e:TypeId) (v:Value) (vs:List Value) (ps:List (List (Bs))):Prop :=
 vs.length=ps.length/\w.ownsRow B e2 1 v ps.length vs/\∀ i (h:i<ps.length) (h':i<vs.length),w.ownsRow B e 1 vs[i] ps[i].length (sc ps[i])/\zaq vs[i] v
theorem zwe (w:World) (B:Nat) (e2 e:TypeId):zcp w B e2 e (.slice none 0 0) [] []:=⟨rfl,World.ownsRow_nil _ _ _ _,fun i h=>by simp at h⟩
theorem zwf {S:Nat->Prop} {w w':World} {B:Nat} {e2 e:TypeId} {v:Value} {vs:List Value} {ps:List (List (Bs))} (h:zcp w B e2 e v vs ps) (hc:Chg S w w')
  (hs:∀ k,S k->v.ownBlock≠some k/\∀ u∈vs,u.ownBlock≠some k):zcp w' B e2 e v vs ps :=
 ⟨h.1,zz h.2.1 hc (fun k hk hS=>(hs k hS).1 hk),fun i hi cG=>⟨zz (h.2.2 i hi cG).1 hc (fun k hk hS=>(hs k hS).2 _ (List.getElem_mem cG) hk),(h.2.2 i hi cG).2⟩⟩
theorem znO {w w':World} {B:Nat} {e2 e:TypeId} {v v' u:Value} {vs:List Value} {ps:List (List (Bs))} {p:List (Bs)} (h:zcp w B e2 e v vs ps) (hu:w.ownsRow B e 1 u p.length (sc p)) (ia:zaq u v)
  (ab:w'.ownsRow B e2 1 v' (ps.length+1) (vs++[u])) (hc:Chg (fun k=>some k=v.ownBlock) w w') (hv:v'.ownBlock=v.ownBlock\/∃ k,v'.ownBlock=some k/\w.heap.size<=k):zcp w' B e2 e v' (vs++[u]) (ps++[p]):=by
 refine ⟨by simp [h.1],by rw [List.length_append];exact ab,fun i hi cG=>?_⟩
 by_cases aj:i<ps.length
 ·have dr:i<vs.length:=by rw [h.1];exact aj
  obtain ⟨h1,h2⟩:=h.2.2 i aj dr
  rw [List.getElem_append_left aj,List.getElem_append_left dr]
  exact ⟨zz h1 hc (fun k hk hS=>h2 k hk hS.symm),zdd h2 h1 hv⟩
 have jd:i=ps.length:=by simp at hi;omega
 subst jd
 have e1:(ps++[p])[ps.length]'hi=p:=by simp
 have e2:(vs++[u])[ps.length]'cG=u:=by simp [<- h.1]
 rw [e1,e2]
 exact ⟨zz hu hc (fun k hk hS=>ia k hk hS.symm),zdd ia hu hv⟩
end Go.Proofs.MemK
