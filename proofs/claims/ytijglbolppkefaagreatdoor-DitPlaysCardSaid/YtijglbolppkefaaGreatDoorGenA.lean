/- Small laws of one's own over any. -/
import Derived.WalkKit
import Derived.WalkMore
import Derived.ScopeJumps
import Derived.Lib.Hide
import Derived.Lib.AppendStr
import Derived.Laws.IdiomStrings
import Derived.OwnWalk
import Derived.Laws.BytesArg
import Derived.Laws.OwnMore
import Derived.Deep.QuietTactic
import Derived.Lib.OthersKept
import Derived.Lib.SpaceUEq
import Derived.WalkSmall
set_option linter.unusedVariables false
set_option linter.unusedSimpArgs false
set_option maxHeartbeats 25600000
set_option maxRecDepth 100000
namespace Go.Proofs.BerK
open Go Go.RowKit
theorem Kr {p:Prop} (h:p:=by kernel_rfl):p:=h
theorem Om {p:Prop} (h:p:=by omega):p:=h
theorem De {p:Prop} (h:p:=by decide):p:=h
theorem Sm {p:Prop} (h:p:=by simp):p:=h
theorem Dk {p:Prop} (h:p:=by decide +kernel):p:=h
theorem As {p:Prop} (h:p:=by assumption):p:=h
theorem Ab {p:Prop} (h:p:=by exact fun h=>absurd h (by decide +kernel)):p:=h
theorem So {p:Prop} (h:p:=by simp;omega):p:=h
theorem Sq {p:Prop} (h:p:=by simp <;> omega):p:=h
theorem Mx {p:Prop} (h:p:=by unfold maxLen;omega):p:=h
theorem Fh {p:Prop} (h:p:=by exact fun _ _ _ h=>h):p:=h
theorem Fi {p:Prop} (h:p:=by exact fun _ _ h=>h):p:=h
structure Hd (p : Prop) : Prop where
 o : p
theorem Hy {p : Prop} (h : p) : Hd p := ⟨h⟩
theorem Ex {α : Sort _} (a : α) : ∃ x, a = x := ⟨a, rfl⟩
theorem Gd {a : Act} {k : Nat} {v : Value} (h : a.eval (.tmp k) = v) : a.tmps[k]?.getD undef = v := (Array.getD_eq_getD_getElem? ..).symm.trans h
theorem Br {B : Nat} (w : World) : Below B w w := Below.refl B w
theorem Lr {n : Nat} : n <= n := Nat.le_refl n
theorem Nw {w W : World} {c : Array Value} {t : TypeId} (h : w.alloc (.cells c t) = W) : W.heap[w.heap.size]? = some (.cells c t (0, 0)) := by rw [← h]; exact heap_alloc_new w _
theorem Nb {w W : World} {o : Obj} (h : w.alloc o = W) : Below w.heap.size w W := by rw [← h]; exact (Below.refl _ w).alloc (Nat.le_refl _) _
abbrev Bs := List UInt8
theorem Sg {α : Type _} : (∀ (l : List α) (i : Nat) (h : i < l.toArray.size), l.toArray[i]'h = l[i]'(by simpa using h)) /\ (∀ (a : α) (l : List α) (h : 0 < (a :: l).length), (a :: l)[0]'h = a) /\ ∀ (a : α) (l : List α) (i : Nat) (h : i + 1 < (a :: l).length), (a :: l)[i + 1]'h = l[i]'(by simpa using h) := ⟨fun _ _ _ => List.getElem_toArray .., fun _ _ _ => rfl, fun _ _ _ _ => rfl⟩
theorem Ss {α : Type _} : (∀ (l : List α) (i : Nat) (a : α), l.toArray.setIfInBounds i a = (l.set i a).toArray) /\ (∀ (a b : α) (l : List α), (a :: l).set 0 b = b :: l) /\ ∀ (a b : α) (l : List α) (i : Nat), (a :: l).set (i + 1) b = a :: l.set i b := ⟨fun _ _ _ => List.setIfInBounds_toArray .., fun _ _ _ => rfl, fun _ _ _ _ => rfl⟩
theorem An {a b:Prop} (x:a) (y:b):a/\b:=⟨x,y⟩
def bc (l:List UInt8):List Value:=l.map fun b=>Value.int .u8 b.toNat
theorem zbU (a b:List UInt8):bc (a++b)=bc a++bc b:=by simp [bc]
theorem zeB (w:World) (us:List Value) (e:TypeId):∀ j u,us[j]?=some u->(w.alloc (.cells us.toArray e)).cell? ((⟨w.heap.size,0,none⟩:Addr).add j)=some u:=by
 intro j u hu
 rw [Addr.add_lit,Nat.zero_add,World.cell?_alloc_mark w us.toArray e (0,0) j]
 simpa using hu
theorem zi7 {w:World} {base:Nat} {e:TypeId} {size:Nat} {v:Value} {n:Nat} {xs:List Value} (h:w.ownsRow base e size v n xs) {w0 w':World} {B:Nat} (hB:B<=base) (hs:base<=w.heap.size) (hg:w.grownBy w' v.ownBlock) (h0:Below B w0 w):Below B w0 w' :=
 h0.grown hg (by omega) fun k hk=>Nat.le_trans hB (h.lt k hk).1
theorem zvX (a:UInt8) (l:List UInt8):ByteArray.mk #[a]++ByteArray.mk l.toArray=ByteArray.mk (a :: l).toArray:=by
 have:=ByteArray.mk_append_mk [a] l
 simpa using this
theorem zdb (s:ByteArray) (k:Nat) (h:k<s.size):s.data.toList.take (k+1)=s.data.toList.take k++[s[k]]:=by
 rw [List.take_succ_eq_append_getElem (by simpa using h)];rfl
end Go.Proofs.BerK
namespace Go.Proofs.MemK
open Go Go.RowKit Go.Proofs.BerK
theorem zu {w w':World} {base:Nat} {e:TypeId} {size:Nat} {v:Value} {n:Nat} {xs:List Value} (h:w.ownsRow base e size v n xs) (hb:Below w.heap.size w w'):w'.ownsRow base e size v n xs:=by
 refine ⟨h.1,?_⟩
 rcases h.2 with hn | ⟨g,cap,cur,rfl,xi,hg,rest⟩
 ·exact .inl hn
 exact .inr ⟨g,cap,cur,rfl,xi,by rw [hb.block g (Array.getElem?_eq_some_iff.1 hg).1];exact hg,rest⟩
theorem zh {w:World} {base:Nat} {e:TypeId} {size:Nat} {v:Value} {n:Nat} {xs:List Value} (h:w.ownsRow base e size v n xs):∃ a c,v=.slice a n c:=by
 rcases h.2 with ⟨rfl,rfl⟩ | ⟨g,cap,cur,rfl,_⟩
 ·exact ⟨none,0,rfl⟩
 exact ⟨_,cap,rfl⟩
theorem zaK {w:World} {B B':Nat} {e:TypeId} {size:Nat} {v:Value} {n:Nat} {xs:List Value} (h:w.ownsRow B e size v n xs) (hB:B'<=B):w.ownsRow B' e size v n xs :=
 ⟨h.1,h.2.imp id fun ⟨g,cap,cur,a,b,c⟩=>⟨g,cap,cur,a,Nat.le_trans hB b,c⟩⟩
theorem zO {α:Type} (L:List α) (i:Nat) (h:i<L.length):L.drop i=L[i] :: L.drop (i+1):=by
 rw [List.drop_eq_getElem_cons h]
def zi8 (w:World) (v:Value) (l:List (List UInt8)):Prop :=
 (l=[]/\∃ a c,v=.slice a 0 c)\/(0<l.length/\∃ g o c,v=.slice (some ⟨g,o,none⟩) l.length c/\g<w.heap.size/\∀ i (hi:i<l.length),w.cell? ⟨g,o+i,none⟩=some (.string ⟨l[i].toArray⟩))
theorem zgH {P:Program} {w:World} {base src dst e:TypeId} {v:Value} {n:Nat} {l:List UInt8} (hs:P.underlying src=some (.slice e)) (he:P.underlying e=some (.int .u8)) (hd:P.underlying dst=some .string)
  (h:w.ownsRow base e 1 v n (bc l)):(convert src dst v).run P w=.ok (.string ⟨l.toArray⟩) w:=by
 have hn:l.length=n:=by have:=h.1;simpa [bc] using this
 rcases h.2 with ⟨rfl,rfl⟩ | ⟨g,cap,cur,rfl,_,_,_,_,_,_⟩
 ·obtain rfl:=List.eq_nil_of_length_eq_zero hn
  exact run_convert_bytes_nil (P:=P) (w:=w) src e hs he 0 0 dst hd
 have hc:=h.cells (g:=g) rfl
 have:=run_convert_bytes_back (P:=P) w src dst e ⟨g,0,none⟩ cap l hs he hd (fun j hj=>hc j _ (by simp [bc,hj]))
 rw [hn] at this
 exact this
def sc (l:List (List UInt8)):List Value:=l.map fun x=>.string ⟨x.toArray⟩
def zcY (l:List (List UInt8)) (k:Nat):List (List UInt8):=l.take k++List.replicate (l.length - k) []
theorem zvY (l:List (List UInt8)):sc (zcY l 0)=(madeCells #[Value.string ByteArray.empty] l.length).toList:=by
 rw [toList_madeCells_one]
 simp [zcY,sc]
 exact .inr rfl
theorem zvZ (l:List (List UInt8)):zcY l l.length=l:=by simp [zcY]
theorem zv0 (l:List (List UInt8)) (k:Nat) (h:k<l.length):(sc (zcY l k)).set k (.string ⟨l[k].toArray⟩)=sc (zcY l (k+1)):=by
 have e:l.length - k=(l.length - (k+1))+1:=by omega
 have hk:(l.take k).length=k:=by simp;omega
 unfold sc
 rw [<- List.map_set (f:=fun x:List UInt8=>Value.string ⟨x.toArray⟩)]
 congr 1
 unfold zcY
 rw [e,List.replicate_succ,List.set_append_right _ _ (by omega),List.take_succ_eq_append_getElem h,hk,Nat.sub_self,List.set_cons_zero,List.append_assoc]
 rfl
theorem zv1 (l:List (List UInt8)) (k:Nat) (h:k<l.length):(sc (zcY l k))[k]?=some (.string ⟨([] : List UInt8).toArray⟩):=by
 have hk:(l.take k).length=k:=by simp;omega
 simp only [sc,List.getElem?_map,zcY]
 rw [List.getElem?_append_right (by omega),hk,Nat.sub_self,show l.length - k=(l.length - (k+1))+1 by omega,List.replicate_succ]
 rfl
theorem zaZ {w w':World} {base:Nat} {e:TypeId} {size:Nat} {v:Value} {n:Nat} {xs:List Value} (h:w.ownsRow base e size v n xs) (hh:w'.heap=w.heap):w'.ownsRow base e size v n xs:=by
 unfold World.ownsRow at h ⊢
 rw [hh];exact h
theorem zae {B:Nat} {a w:World} (h:Below B a w) (n:Nat):Below B a (w.drewN n):=⟨h.os,h.tape,h.output,h.size,h.block⟩
def zi9 (w:World) (v:Value) (l:List (List UInt8)):Prop :=
 ∃ a c,v=.slice a l.length c/\∀ i (hi:i<l.length),∃ g,a=some ⟨g,0,none⟩/\g<w.heap.size/\w.cell? ⟨g,i,none⟩=some (.string ⟨l[i].toArray⟩)
theorem zeC {w:World} {B e:Nat} {v:Value} {l:List (List UInt8)} (h:w.ownsRow B e 1 v l.length (sc l)):zi9 w v l:=by
 rcases h.2 with ⟨rfl,h0⟩ | ⟨g,cap,cur,rfl,_,hg,_⟩
 ·exact ⟨none,0,by rw [h0],fun i hi=>by omega⟩
 refine ⟨_,cap,rfl,fun i hi=>⟨g,rfl,(Array.getElem?_eq_some_iff.1 hg).1,?_⟩⟩
 rw [h.cellAt i (by omega)]
 simp [sc,hi]
theorem zv2 (w:World) (l:List (List UInt8)) (e:TypeId):zi9 (w.alloc (.cells (sc l).toArray e)) (.slice (some ⟨w.heap.size,0,none⟩) l.length l.length) l:=by
 refine ⟨_,_,rfl,fun i hi=>⟨w.heap.size,rfl,by simp,?_⟩⟩
 rw [World.cell?_alloc_mark w _ e (0,0)]
 simp [sc,hi]
theorem zv3 {α:Type} {p:α->Prop} {l:List α} {i:Nat} (h:i<l.length) (h1:∀ x∈l.take i,p x) (h2:p l[i]):∀ x∈l.take (i+1),p x:=by
 rw [List.take_succ_eq_append_getElem h]
 intro x hx
 rcases List.mem_append.1 hx with hx | hx
 ·exact h1 x hx
 obtain rfl:=List.mem_singleton.1 hx;exact h2
def TxR (w:World) (v:Value) (l:List (List UInt8)):Prop :=
 ∃ a c,v=.slice a l.length c/\∀ i (hi:i<l.length),∃ g o,a=some ⟨g,o,none⟩/\g<w.heap.size/\w.cell? ⟨g,o+i,none⟩=some (.string ⟨l[i].toArray⟩)
theorem zA {w w':World} {v:Value} {l:List (List UInt8)} (h:TxR w v l) (hb:Below w.heap.size w w'):TxR w' v l:=by
 obtain ⟨a,c,rfl,h⟩:=h
 refine ⟨a,c,rfl,fun i hi=>?_⟩
 obtain ⟨g,o,h1,h2,h3⟩:=h i hi
 exact ⟨g,o,h1,Nat.lt_of_lt_of_le h2 hb.size,(hb.cell (p:=⟨g,o+i,none⟩) h2).trans h3⟩
theorem zaL {w:World} {B:Nat} {e:TypeId} {v:Value} {l:List (List UInt8)} (h:w.ownsRow B e 1 v l.length (sc l)):TxR w v l:=by
 obtain ⟨a,c,hv,hc⟩:=zeC h
 refine ⟨a,c,hv,fun i hi=>?_⟩
 obtain ⟨g,h1,h2,h3⟩:=hc i hi
 exact ⟨g,0,h1,h2,by rw [Nat.zero_add];exact h3⟩
theorem zv4 {w:World} {v:Value} {l:List (List UInt8)} (h:zi8 w v l):TxR w v l:=by
 rcases h with ⟨rfl,a,c,rfl⟩ | ⟨h0,g,o,c,rfl,hg,hq⟩
 ·exact ⟨a,c,rfl,fun i hi=>by simp at hi⟩
 exact ⟨some ⟨g,o,none⟩,c,rfl,fun i hi=>⟨g,o,rfl,hg,hq i hi⟩⟩
theorem znB (w:World) (a:Option Addr) (c:Nat):TxR w (.slice a 0 c) []:=⟨a,c,rfl,fun i hi=>by simp at hi⟩
theorem zgI (w:World) (l:List (List UInt8)) (e:TypeId):TxR (w.alloc (.cells (sc l).toArray e)) (.slice (some ⟨w.heap.size,0,none⟩) l.length l.length) l:=by
 obtain ⟨a,c,hv,hc⟩:=zv2 w l e
 refine ⟨a,c,hv,fun i hi=>?_⟩
 obtain ⟨g,h1,h2,h3⟩:=hc i hi
 exact ⟨g,0,h1,h2,by rw [Nat.zero_add];exact h3⟩
theorem zY {w:World} {a b:Nat} (h:a≠b) (i j l k:Nat) (u v x:Value):(((w.setCell ⟨b,i,none⟩ u).setCell ⟨b,j,none⟩ v).setCell ⟨b,l,none⟩ x).cell? ⟨a,k,none⟩=w.cell? ⟨a,k,none⟩ :=
 World.cell?_of_block (w:=w) (a:=⟨a,k,none⟩) (((Below.heap_setCell _ ⟨b,l,none⟩ x a h).trans (Below.heap_setCell _ ⟨b,j,none⟩ v a h)).trans (Below.heap_setCell w ⟨b,i,none⟩ u a h))
theorem zgJ {w:World} {a:Option Addr} {n c:Nat} {l:List (List UInt8)} (h:TxR w (.slice a n c) l) {b:Nat} (hb:∀ g o,a=some ⟨g,o,none⟩->g≠b) (i j k:Nat) (u v x:Value):TxR (((w.setCell ⟨b,i,none⟩ u).setCell ⟨b,j,none⟩ v).setCell ⟨b,k,none⟩ x) (.slice a n c) l:=by
 obtain ⟨a',c',hv,h⟩:=h
 injection hv with dl f7 ep
 subst dl f7 ep
 refine ⟨a,c,rfl,fun q hq=>?_⟩
 obtain ⟨g,o,h1,h2,h3⟩:=h q hq
 refine ⟨g,o,h1,by simpa using h2,(zY (hb g o h1) _ _ _ _ _ _ _).trans h3⟩
end Go.Proofs.MemK
namespace Go.Proofs.UtfK
open Go Go.RowKit Go.Proofs.BerK
theorem zja (s:ByteArray) (i:Nat) (h:i<s.size):s.get! i=s[i]'h:=by
 simp [ByteArray.get!,getElem!_pos,h]
 rfl
theorem zay (s:ByteArray) (i:Nat) (h:i<s.size) (h2:i<s.data.toList.length):s.data.toList[i]'h2=s[i]'h:=rfl
theorem zl (s:ByteArray):s.data.toList.length=s.size:=Array.length_toList
theorem zjb (s:ByteArray) (pos:Nat) (h:pos<s.size) (ha:128<=s[pos].toNat) :
  ∃ mid,s.data.toList.take (pos+(Utf8.decode s pos).2)=s.data.toList.take pos++mid/\s.data.toList.drop pos=mid++s.data.toList.drop (pos+(Utf8.decode s pos).2)/\(∀ b∈mid,128<=b.toNat) /\
   1<=(Utf8.decode s pos).2/\pos+(Utf8.decode s pos).2<=s.size/\128<=(Utf8.decode s pos).1:=by
 obtain ⟨r1,w1⟩:=decode_high s pos h ha
 have hc:=Lib.decodeN_conts (s.size - pos) (s.get! pos).toNat (s.get! (pos+1)).toNat (s.get! (pos+2)).toNat (s.get! (pos+3)).toNat
 rw [<- Lib.decode_at] at hc
 obtain ⟨c2,c3,c4,c5⟩:=hc
 generalize (Utf8.decode s pos).2=K at *
 have hl:=zl s
 have hK:pos+K<=s.size:=by
  have:K=1\/K=2\/K=3\/K=4:=by omega
  rcases this with rfl | rfl | rfl | rfl
  ·omega
  ·have:=c2 (by omega);omega
  ·have:=c3 (by omega);omega
  have:=c4 (by omega);omega
 refine ⟨(s.data.toList.drop pos).take K,?_,?_,?_,w1,hK,r1⟩
 ·rw [List.take_add]
 ·rw [<- List.drop_drop,List.take_append_drop]
 intro b hb
 obtain ⟨j,hj,rfl⟩:=List.mem_iff_getElem.1 hb
 have hjK:j<K:=by simp at hj;omega
 rw [List.getElem_take,List.getElem_drop,zay s (pos+j) (by omega)]
 have:j=0\/j=1\/j=2\/j=3:=by omega
 rcases this with rfl | rfl | rfl | rfl
 ·simpa using ha
 ·have:=c2 (by omega);rw [zja s (pos+1) (by omega)] at this;omega
 ·have:=c3 (by omega);rw [zja s (pos+2) (by omega)] at this;omega
 have:=c4 (by omega);rw [zja s (pos+3) (by omega)] at this;omega
theorem zeD {B:Nat} {a w:World} (h:Below B a w) {k:Nat} (hk:B<=k) (s:ByteArray) (pos:Nat):Below B a (w.iterAt k s pos):=Lib.below_iterAt h hk s pos
theorem znC {w:World} {B e size n:Nat} {v:Value} {xs:List Value} {k:Nat} {s:ByteArray} {pos:Nat} (h:w.ownsRow B e size v n xs) (hk:w.heap[k]?=some (.stringIter s pos)) (pos':Nat):(w.iterAt k s pos').ownsRow B e size v n xs:=by
 refine ⟨h.1,?_⟩
 rcases h.2 with h0 | ⟨g,cap,cur,hv,hb,hg,rest⟩
 ·exact .inl h0
 refine .inr ⟨g,cap,cur,hv,hb,?_,rest⟩
 rw [Lib.iterAt_other _ _ _ _ _ (fun e=>by subst e;rw [hk] at hg;cases hg)]
 exact hg
theorem zv5 {w:World} {B e size n:Nat} {v:Value} {xs:List Value} {k:Nat} {s:ByteArray} {pos:Nat} (h:w.ownsRow B e size v n xs) (hk:w.heap[k]?=some (.stringIter s pos)):¬ some k=v.ownBlock:=by
 rcases h.2 with ⟨rfl,_⟩ | ⟨g,cap,cur,rfl,hb,hg,rest⟩
 ·simp [Value.ownBlock]
 intro e
 simp only [Value.ownBlock,Option.some.injEq] at e
 subst e
 rw [hk] at hg
 cases hg
def zcC (w:World) (g:Nat) (l:List UInt8):Prop :=
 g<w.heap.size/\(∀ j (h:j<l.length),w.cell? ⟨g,j,none⟩=some (.int .u8 (l[j].toNat:Nat)))/\∀ j,j<l.length->w.frozen? ⟨g,j,none⟩=false
theorem znD {w w':World} {g:Nat} {l:List UInt8} (h:zcC w g l) (hs:w.heap.size<=w'.heap.size) (hg:w'.heap[g]? = w.heap[g]?):zcC w' g l:=by
 refine ⟨Nat.lt_of_lt_of_le h.1 hs,fun j hj=>?_,fun j hj=>?_⟩
 ·have:=h.2.1 j hj
  unfold World.cell? at this ⊢
  rw [hg];exact this
 have:=h.2.2 j hj
 unfold World.frozen? at this ⊢
 rw [hg];exact this
theorem znE {w:World} {g:Nat} {l:List UInt8} (h:zcC w g l) {k:Nat} (hk:g≠k) (s:ByteArray) (pos:Nat):zcC (w.iterAt k s pos) g l :=
 znD h (by rw [Lib.iterAt_size];exact Nat.le_refl _) (Lib.iterAt_other w k g s pos hk)
theorem zv6 {w:World} {g:Nat} {l:List UInt8} (h:zcC w g l) (o:Obj):zcC (w.alloc o) g l :=
 znD h (by simp) (Below.heap_alloc w o g h.1)
theorem zv7 {w:World} {g:Nat} {l:List UInt8} (h:zcC w g l) (i:Nat) (b:UInt8):zcC (w.setCell ⟨g,i,none⟩ (.int .u8 (b.toNat:Nat))) g (l.set i b):=by
 refine ⟨by simpa using h.1,fun j hj=>?_,fun j hj=>?_⟩
 ·have uE:j<l.length:=by simpa using hj
  have hc:=h.2.1 j uE
  by_cases e:i=j
  ·subst e
   rw [World.cell?_setCell_same _ _ _ hc]
   simp
  rw [World.cell?_setCell_other w _ _ _ (by intro hh;injection hh;contradiction),hc,List.getElem_set_ne e]
 rw [World.frozen?_setCell];exact h.2.2 j (by simpa using hj)
def zcZ (w:World) (s:ByteArray) (e:TypeId):Obj:=.cells (bytesRow s (grownCap w s.size 0 e)) e ((bytesRow s (grownCap w s.size 0 e)).size,(bytesRow s (grownCap w s.size 0 e)).size+1)
theorem zv8 (w:World) (s:ByteArray) (e:TypeId):s.size<=(bytesRow s (grownCap w s.size 0 e)).size:=by
 simp [bytesRow]
theorem znF (w w':World) (s:ByteArray) (e:TypeId) (hw:w'.heap.size=w.heap.size):zcC (w'.alloc (zcZ w s e)) w.heap.size s.data.toList:=by
 have hz:=zv8 w s e
 have hl:=zl s
 refine ⟨by simp [hw],fun j hj=>?_,fun j hj=>?_⟩
 ·rw [<- hw,zcZ,World.cell?_alloc_mark,bytesRow_at s _ j (by simpa using hj)]
  rfl
 rw [<- hw,zcZ,World.frozen?_alloc_mark]
 simp;omega
theorem zv9 {P:Program} {w:World} {src dst e:TypeId} {g n cap:Nat} {l:List UInt8} (hs:P.underlying src=some (.slice e)) (he:P.underlying e=some (.int .u8)) (hd:P.underlying dst=some .string)
  (h:zcC w g l) (hn:n=l.length):(convert src dst (.slice (some ⟨g,0,none⟩) n cap)).run P w=.ok (.string ⟨l.toArray⟩) w:=by
 subst hn
 exact run_convert_bytes_back (P:=P) w src dst e ⟨g,0,none⟩ cap l hs he hd (fun j hj=>by
  rw [show (⟨g,0,none⟩:Addr).add j=⟨g,j,none⟩ by simp [Addr.add];exact fun e=>e.symm];exact h.2.1 j hj)
end Go.Proofs.UtfK
