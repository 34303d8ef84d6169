import Derived.Test.YteglaomdgdkibaaGreatDoorJNS06
import Derived.Test.YteglaomdgdkibaaGreatDoorJQNSP
import Derived.Test.YteglaomdgdkibaaGreatDoorJQNSW
set_option linter.all false
set_option maxHeartbeats 0
set_option maxRecDepth 99999
namespace Go.Proofs.YteglaomdgdkibaaGreatDoor
open Go.RowKit
open Value renaming int→ZZ,string→Zx,pointer→Zv
open IntKind renaming i64→ZY
open Ending renaming returned→ZX
open Go renaming World→Z3
open Tryz
open Tryz renaming prog→ZW
open Option renaming some→ZV,none→ZU
open Bool renaming false→Zz
variable {w w':World}{B E R cap g p q:Nat}{L:List Tok}{l:List UInt8}{t:Tok}
theorem ba_eq (l:List UInt8) (m:List UInt8):((⟨l.toArray⟩:ByteArray)=⟨m.toArray⟩)↔l=m:=by
 constructor
 ·intro h;have:=congrArg ByteArray.data h;simpa using this
 ·rintro rfl;rfl
theorem gz (l:List UInt8):pI ⟨l.toArray⟩=(lvl l:Int) - 1:=by
 have h0:∀(m:List UInt8) (r:List ByteArray),(cH ⟨l.toArray⟩ ((⟨m.toArray⟩:ByteArray)::r)).isSome=(decide (l=m) || (cH ⟨l.toArray⟩ r).isSome):=fun m r=>by
  rw [cH];by_cases h:l=m
  ·rw [if_pos ((ba_eq l m).2 h)];simp [h]
  ·rw [if_neg (fun e=>h ((ba_eq l m).1 e))];simp [h]
 have hn:(cH ⟨l.toArray⟩ []).isSome=Zz:=rfl
 have e0:(cH ⟨l.toArray⟩ (gt 0)).isSome=(decide (l=[60]) || (decide (l=[60,61]) || (decide (l=[61]) || (decide (l=[60,62]) || (decide (l=[62,61]) || (decide (l=[62]) || false)))))):=by
  show (cH ⟨l.toArray⟩ [⟨[60].toArray⟩,⟨[60,61].toArray⟩,⟨[61].toArray⟩,⟨[60,62].toArray⟩,⟨[62,61].toArray⟩,⟨[62].toArray⟩]).isSome=_
  rw [h0,h0,h0,h0,h0,h0,hn]
 have e1:(cH ⟨l.toArray⟩ (gt 1)).isSome=(decide (l=[43]) || (decide (l=[45]) || false)):=by
  show (cH ⟨l.toArray⟩ [⟨[43].toArray⟩,⟨[45].toArray⟩]).isSome=_
  rw [h0,h0,hn]
 have e2:(cH ⟨l.toArray⟩ (gt 2)).isSome=(decide (l=[42]) || (decide (l=[47]) || false)):=by
  show (cH ⟨l.toArray⟩ [⟨[42].toArray⟩,⟨[47].toArray⟩]).isSome=_
  rw [h0,h0,hn]
 unfold pI lvl;rw [e0,e1,e2];by_cases c0:l=[60]\/l=[60,61]\/l=[61]\/l=[60,62]\/l=[62,61]\/l=[62]
 ·rw [if_pos c0,if_pos (by simpa [or_assoc] using c0)];rfl
 ·rw [if_neg c0,if_neg (by simpa [or_assoc] using c0)]
  by_cases c1:l=[43]\/l=[45]
  ·rw [if_pos c1,if_pos (by simpa using c1)];rfl
  ·rw [if_neg c1,if_neg (by simpa using c1)]
   by_cases c2:l=[42]\/l=[47]
   ·rw [if_pos c2,if_pos (by simpa using c2)];rfl
   ·rw [if_neg c2,if_neg (by simpa using c2)];rfl
def eP (E:Nat):Tok:=⟨0,0,0,0,[],E⟩
def dH (L:List Tok) (E:Nat):List Tok:=L++[eP E]
theorem gv (L:List Tok) (E:Nat):(dH L E).length=L.length+1:=by simp [dH]
structure RL (w:Z3) (R g cap B:Nat) (L:List Tok) (E p:Nat):Prop where
 c:w.cell? ⟨R,0,ZU⟩=ZV (.slice (ZV ⟨g,p*6,ZU⟩) (L.length+1 - p) (cap - p))
 f:w.frozen? ⟨R,0,ZU⟩=Zz
 ne:g≠R
 lt:g<w.heap.size
 le:p<=L.length
 cp:L.length+1<=cap
 toks:AtT w g (dH L E)
 st:bh R B w
 lo:R<B/\g<B/\B<=w.heap.size
theorem RL.rlt (h:RL w R g cap B L E p):R<w.heap.size:=Lib.lt_of_cell h.c
def aj (L:List Tok) (E p:Nat):Tok:=(dH L E).getD p (eP E)
theorem fk (h:p<=L.length):(dH L E)[p]? =ZV (aj L E p):=by
 have hl:p<(dH L E).length:=(by rw [gv];omega);unfold aj;rw [List.getD_eq_getElem?_getD,List.getElem?_eq_getElem hl];rfl
def cy (t:Tok):Value:=.agg #[ZZ ZY t.kY,ZZ ZY t.num,ZZ ZY t.col,ZZ ZY t.row,Zx ⟨t.text.toArray⟩,ZZ ZY (t.frm:Int)]
theorem RL.keep (h:RL w R g cap B L E p) (hR:w'.heap[R]? =w.heap[R]?) (hg:w'.heap[g]? =w.heap[g]?) (hs:w.heap.size<=w'.heap.size) (hst:bh R B w'):RL w' R g cap B L E p:=
 ⟨(by rw [World.cell?_of_block (w:=w) (a:=⟨R,0,ZU⟩) hR];exact h.c),(by rw [World.frozen?_of_block (w:=w) (a:=⟨R,0,ZU⟩) hR];exact h.f),h.ne,Nat.lt_of_lt_of_le h.lt hs,h.le,h.cp,
   fun i t hi=>by
    obtain ⟨a,b,c,d,e,f⟩:=h.toks i t hi;have k:∀o v,w.cell? ⟨g,o,ZU⟩=ZV v->w'.cell? ⟨g,o,ZU⟩=ZV v:=fun o v hv=>by rw [World.cell?_of_block (w:=w) (a:=⟨g,o,ZU⟩) hg];exact hv
    exact ⟨k _ _ a,k _ _ b,k _ _ c,k _ _ d,k _ _ e,k _ _ f⟩,hst,h.lo.1,h.lo.2.1,Nat.le_trans h.lo.2.2 hs⟩
theorem RL.below (h:RL w R g cap B L E p) (hb:Below w.heap.size w w'):RL w' R g cap B L E p:=
 h.keep (hb.block R h.rlt) (hb.block g h.lt) hb.size (h.st.keep fun _ _ _ _ hc=>aa hb hc)
theorem RL.go (h:RL w R g cap B L E p) (hb:But R w w') (hq:q<=L.length) (hc:w'.cell? ⟨R,0,ZU⟩=ZV (.slice (ZV ⟨g,q*6,ZU⟩) (L.length+1 - q) (cap - q))) (hf:w'.frozen? ⟨R,0,ZU⟩=Zz):RL w' R g cap B L E q:=
 ⟨hc,hf,h.ne,Nat.lt_of_lt_of_le h.lt hb.size,hq,h.cp,h.toks.but hb h.ne,h.st.keep fun _ _ hn _ hv=>hb.cell hn hv,h.lo.1,h.lo.2.1,Nat.le_trans h.lo.2.2 hb.size⟩
theorem RL.far (h:RL w R g cap B L E p) {b:Nat} (hb:B<=b) (o:Nat) (u:Value):RL (w.setCell ⟨b,o,ZU⟩ u) R g cap B L E p:=
 h.keep (Below.heap_setCell w ⟨b,o,ZU⟩ u R fun e=>by have e2:R=b:=e;have:=h.lo.1;omega) (Below.heap_setCell w ⟨b,o,ZU⟩ u g fun e=>by have e2:g=b:=e;have:=h.lo.2.1;omega) qns
  (h.st.keep fun p v _ hl hv=>by rw [World.cell?_setCell_far w ⟨b,o,ZU⟩ p u (by show b≠p.block;omega)];exact hv)
theorem RL.alloc (h:RL w R g cap B L E p) (ob:Obj):RL (w.alloc ob) R g cap B L E p:=h.below (qb.alloc qd ob)
theorem RL.drewN (h:RL w R g cap B L E p) (n:Nat):RL (w.drewN n) R g cap B L E p:=h.below (below_drewN qb n)
theorem RL.drew (h:RL w R g cap B L E p):RL w.drew R g cap B L E p:=h.keep rfl rfl qd (h.st.keep fun _ _ _ _ hv=>hv)
theorem Je (hL:L.length<=1000) (hc:cap<=maxLen) (h:RL w R g cap B L E p) (hlt:p<L.length):
 Calls ZW 131 #[Zv (ZV ⟨R,0,ZU⟩)] w fun e w'=>e=ZX (cy (aj L E p))/\RL w' R g cap B L E (p+1)/\But R w w':=by
 have HX:=qf h;have hx:=h.c;have hf:=h.f;have hp:=h.le;have hcp:=h.cp;have hne:=h.ne;have hgl:=h.lt;have hrl:=h.rlt;have hn:¬(cap - p=1):=qoq;obtain ⟨t0,t1,t2,t3,t4,t5⟩:=h.toks p _ (fk h.le);generalize aj L E p=t at*;clear h;go_enter func131,ntmps131;go_wp2_with fail
 all_goals
  refine bodyPost_ret (v:=cy t) qqM rfl ⟨rfl,?_,?_⟩
  ·have e1:(p+1)*6=p*6+6:=by omega
   have e2:L.length+1 - (p+1)=L.length+1 - p - 1:=qoq;have e3:cap - (p+1)=cap - p - 1:=qoq;refine HX.out.go ?_ qoq ?_ ?_
   ·exact qmJ
   ·rw [e1,e2,e3]
    exact ai (ai (World.cell?_setCell_same' _ _ _ (by rw [hx];rfl)) _) _
   ·exact aF (aF (by rw [World.frozen?_setCell];exact hf) qnu _) qnu _
  ·exact qmJ
theorem Gh (hL:L.length<=1000) (hc:cap<=maxLen) (h:RL w R g cap B L E L.length):
 Calls ZW 131 #[Zv (ZV ⟨R,0,ZU⟩)] w fun e w'=>e=ZX (cy (eP E))/\But R w w':=by
 have hx:=h.c;have hf:=h.f;have hcp:=h.cp;have hne:=h.ne;have hgl:=h.lt;have hrl:=h.rlt;have ht:=qgg;rw [show L.length+1 - L.length=1 from by omega] at hx;obtain ⟨t0,t1,t2,t3,t4,t5⟩:=h.toks _ _ (fk h.le);rw [ht] at t0 t1 t2 t3 t4 t5;clear ht;generalize eP E=t at*;clear h;go_enter func131,ntmps131;go_wp2_with fail
 all_goals
  refine bodyPost_ret (v:=cy t) qqM rfl ⟨rfl,?_⟩;repeat' (first|(with_reducible exact But.refl _ _)|(with_reducible refine But.setR ?_ _ _)|(with_reducible refine But.alloc ?_ _))
theorem gR (hL:L.length<=1000) (hc:cap<=maxLen) (h:RL w R g cap B L E p):
 Calls ZW 131 #[Zv (ZV ⟨R,0,ZU⟩)] w fun e w'=>e=ZX (cy (aj L E p))/\(p<L.length->RL w' R g cap B L E (p+1))/\But R w w':=by
 by_cases hp:p<L.length
 ·exact (Je hL hc h hp).mono fun e w' ⟨a,b,c⟩=>⟨a,fun _=>b,c⟩
 ·have:=h.le
  obtain rfl:p=L.length:=qoq;have ht:=qgg;exact (Gh hL hc h).mono fun e w' ⟨a,c⟩=>⟨by rw [ht];exact a,fun h=>absurd h hp,c⟩
structure AG (t:Tok):Prop where
 good:uK t
 bare:t.kY<=3->t.text=[]
def aM (L:List Tok):Prop:=∀(p:Nat) (t:Tok),L[p]? =ZV t->AG t
theorem Gm {n:Nat} (h:aD l p=ZV (t,n)):AG t:=by
 refine ⟨vw h,?_⟩;unfold aD at h;split at h
 ·split at h
  ·exact qmK
  ·cases h
 ·split at h
  ·split at h
   ·exact qmL
   ·split at h
    ·exact qmK
    ·split at h
     ·exact qmK
     ·cases h
  ·split at h
   ·exact qmK
   ·split at h
    ·cases h
    ·exact qmL
theorem Ek {r:List UInt8} {o:Nat} {ts:List Tok} (h:Lex r o ts):∀t∈ts,AG t:=by
 induction h with
 |nil=>intro t ht;cases ht
 |blank _ ih=>exact ih
 |tok _ _ ho _ ih=>
  intro t ht;rcases List.mem_cons.1 ht with rfl|ht
  ·have G:=Gm ho
   exact ⟨⟨G.good.num,G.good.place,G.good.wZ,G.good.kY⟩,G.bare⟩
  ·exact ih t ht
theorem Er (h:cF l=0) (hl:l.length<=200):aM (aE l):=fun _ t ht=>Ek (Dc h hl) t (List.mem_of_getElem? ht)
theorem aM.good (h:aM L):gx L:=fun p t ht=>(h p t ht).good
theorem eY (h:L[p]? =ZV t):aj L E p=t:=by
 have hl:=(List.getElem?_eq_some_iff.1 h).1;unfold aj dH;rw [List.getD_eq_getElem?_getD,List.getElem?_append_left hl,h];rfl
theorem i6 (h:L[p]? =ZU):aj L E p=eP E:=by
 have hl:=List.getElem?_eq_none_iff.1 h;unfold aj dH;rw [List.getD_eq_getElem?_getD,List.getElem?_append_right hl];by_cases e:p - L.length=0
 ·rw [e];rfl
 ·rw [List.getElem?_eq_none qnu];rfl
theorem Hi {w:List UInt8} (h:bP w=true):lvl w=0:=by
 rcases rV h with rfl|rfl|rfl|rfl|rfl<;>decide
theorem iR (hG:aM L) (E p:Nat) {s:List UInt8} (hs:s≠[]) (hw:bP s=Zz):((aj L E p).text==s)=ag L p s:=by
 unfold ag;cases ht:L[p]? with
 |none=>rw [i6 ht];simp [eP];exact fun e=>hs e
 |some t=>
  rw [eY ht];show _=(t.kY==5&&t.text==s)
  by_cases h5:t.kY=5
  ·simp [h5]
  ·have hk:=(hG p t ht).good.kY
   have e5:(t.kY==5)=Zz:=(by rw [beq_eq_false_iff_ne];exact h5);rw [e5,Bool.false_and,beq_eq_false_iff_ne];intro e;by_cases h4:t.kY=4
   ·have:=(hG p t ht).good.wZ h4;rw [e,hw] at this;cases this
   ·exact hs (by rw [<-e];exact (hG p t ht).bare qoq)
theorem oq (hG:aM L) (E p:Nat):lvl (aj L E p).text=aJ L p:=by
 unfold aJ;cases ht:L[p]? with
 |none=>rw [i6 ht];rfl
 |some t=>
  rw [eY ht];show _=if t.kY=5 then lvl t.text else 0
  by_cases h5:t.kY=5
  ·rw [if_pos h5]
  ·rw [if_neg h5]
   have hk:=(hG p t ht).good.kY;by_cases h4:t.kY=4
   ·exact Hi ((hG p t ht).good.wZ h4)
   ·rw [(hG p t ht).bare qoq];rfl
theorem jX (L:List Tok) (E p:Nat):aB L p=((aj L E p).kY==2 || (aj L E p).kY==3):=by
 unfold aB;exact qlM
theorem nS (L:List Tok) (E p:Nat):whr L E p=(aj L E p).frm:=by
 unfold whr;exact qlM
def rn (z:Nat):List PanicEntry:=[{ v:=.iface 187 (ZZ ZY (z:Int)),recovered:=Zz }]
theorem RL.tok (h:RL w R g cap B L E p):w.cell? ⟨g,p*6,ZU⟩=ZV (ZZ ZY (aj L E p).kY)/\w.cell? ⟨g,p*6+4,ZU⟩=ZV (Zx ⟨(aj L E p).text.toArray⟩)/\w.cell? ⟨g,p*6+5,ZU⟩=ZV (ZZ ZY ((aj L E p).frm:Int)):=by
 obtain ⟨a,_,_,_,e,f⟩:=h.toks p _ (fk h.le);exact ⟨a,e,f⟩
theorem RL.tok' (h:RL w R g cap B L E p) (hq:q<=L.length):w.cell? ⟨g,q*6,ZU⟩=ZV (ZZ ZY (aj L E q).kY)/\w.cell? ⟨g,q*6+4,ZU⟩=ZV (Zx ⟨(aj L E q).text.toArray⟩)/\w.cell? ⟨g,q*6+5,ZU⟩=ZV (ZZ ZY ((aj L E q).frm:Int)):=by
 obtain ⟨a,_,_,_,e,f⟩:=h.toks q _ (fk hq);exact ⟨a,e,f⟩
theorem jn (hL:L.length<=1000) (hc:cap<=maxLen) (hG:aM L) (m:ByteArray) (hs:m.data.toList≠[]) (hw:bP m.data.toList=Zz) (h:RL w R g cap B L E p):
 Calls ZW 231 #[Zv (ZV ⟨R,0,ZU⟩),.string m] w fun e w'=>e=ZX (.bool (ag L p m.data.toList))/\RL w' R g cap B L E (if ag L p m.data.toList=true then p+1 else p)/\But R w w':=by
 have HX:=qf h;have hx:=h.c;have hp:=h.le;have hgl:=h.lt;have hrl:=h.rlt;obtain ⟨t0,t4,t5⟩:=h.tok;have hM:=iR hG E p hs hw;have HT:((aj L E p).text==m.toList)=ag L p m.data.toList:=(by rw [ByteArray.toList_eq];exact hM);have HN:=qf (gR hL hc h);have HI:=qf (fun h=>fu (L:=L) (p:=p) (s:=m.data.toList) h);clear h hM;generalize aj L E p=t at*;cases hb:ag L p m.data.toList with
 |false=>
  rw [hb] at HT;clear HN HI hb;go_enter func231,ntmps231;go_wp2_with fail;go_ret;exact ⟨rfl,HX.out,But.refl _ _⟩
 |true=>
  rw [hb] at HT HI;clear hb;go_enter func231,ntmps231;go_wp2_with fail;refine HN.out.mono ?_;rintro e w1 ⟨rfl,r1,b1⟩;go_wp2_with fail;go_ret;exact ⟨rfl,r1 (HI.out qnT),b1⟩
theorem jE (hL:L.length<=1000) (hc:cap<=maxLen) (hG:aM L) (m:ByteArray) (hs:m.data.toList≠[]) (hw:bP m.data.toList=Zz) (h:RL w R g cap B L E p) (hm:ag L p m.data.toList=true):
 Calls ZW 278 #[Zv (ZV ⟨R,0,ZU⟩),.string m] w fun e w'=>e=ZX (.tuple #[])/\RL w' R g cap B L E (p+1)/\But R w w':=by
 have HN:=qf (jn hL hc hG m hs hw h);rw [hm] at HN;clear h hm;go_enter func278,ntmps278;go_wp2_with fail;refine HN.out.mono ?_;rintro e w1 ⟨rfl,r1,b1⟩;go_wp2_with fail;first|go_end0|go_ret|(refine bodyPost_ret (results_none rfl _ _ _) rfl ?_)
 exact ⟨rfl,r1,b1⟩
theorem i7 (hL:L.length<=1000) (hc:cap<=maxLen) (hG:aM L) (m:ByteArray) (hs:m.data.toList≠[]) (hw:bP m.data.toList=Zz) (h:RL w R g cap B L E p) (hm:ag L p m.data.toList=Zz):
 Calls ZW 278 #[Zv (ZV ⟨R,0,ZU⟩),.string m] w fun e w'=>e=.panicked (rn (whr L E p))/\But R w w':=by
 have HN:=qf (jn hL hc hG m hs hw h);rw [hm] at HN;have hp:=h.le;rw [nS];clear h hm;go_enter func278,ntmps278;go_wp2_with fail;refine HN.out.mono ?_;rintro e w1 ⟨rfl,r1,b1⟩;have r2:RL w1 R g cap B L E p:=r1;have hx:=r2.c;have hgl:=r2.lt;have hrl:=r2.rlt;obtain ⟨t0,t4,t5⟩:=r2.tok;clear r1 r2;go_wp2_with fail;exact ⟨rfl,rfl,b1⟩
def cg (w:Z3) (R g cap B:Nat) (L:List Tok) (E:Nat):Res->Ending->Z3->Prop
 |.ok t q,e,w'=>∃x:V8,e=ZX x.val/\TV w' (fun b=>w.heap.size<=b) x (ZV t)/\RL w' R g cap B L E q/\But R w w'
 |.bad z,e,w'=>e=.panicked (rn z)/\But R w w'
def cm (R g cap B:Nat) (L:List Tok) (E:Nat) (F:Nat) (args:Array Value) (f:Nat->Option Res):Prop:=
 ∀(w:Z3) (p:Nat) (res:Res),RL w R g cap B L E p->f p=ZV res->Calls ZW F args w (cg w R g cap B L E res)
theorem cg.later {w0:Z3} {res:Res} {e:Ending} (h:cg w R g cap B L E res e w') (hb:But R w0 w):cg w0 R g cap B L E res e w':=by
 cases res with
 |ok t q=>obtain ⟨x,he,ht,hr,hb'⟩:=h;exact ⟨x,he,ht.imp fun b hb0=>Nat.le_trans hb.size hb0,hr,hb.trans hb'⟩
 |bad z=>exact ⟨h.1,hb.trans h.2⟩
def kg (k n a b c d:Int):V8:=⟨k,n,a,b,c,d,⟨#[]⟩,ZU,0,0⟩
theorem iy {P:Nat->Prop} (k n a b c d:Int):TV w P (kg k n a b c d) (ZV (.mk k n a b c d [] [])):=
 ⟨ZU,0,rfl,KVc.mk' qd (.inl rfl)⟩
theorem j4 (t:Tok) (w:Z3):Calls ZW 329 #[cy t] w fun e w'=>e=ZX (.bool (t.kY==2 || t.kY==3))/\Below w.heap.size w w':=by
 unfold cy;cases h2:(t.kY==2) with
 |true=>
  exact qkR
 |false=>
  exact qkR
theorem mF (h:aB L p=true):p<L.length:=by
 unfold aB at h;exact qlW
theorem pS (hL:L.length<=1000) (hc:cap<=maxLen) (hr:RL w R g cap B L E p) (hm:aB L p=true):
 Calls ZW 327 #[Zv (ZV ⟨R,0,ZU⟩)] w fun e w'=>e=ZX (cy (aj L E p))/\RL w' R g cap B L E (p+1)/\But R w w':=by
 have hN:=qbh;have HC:=qf (j4 (aj L E p));have hl:=qf (mF hm);rw [jX L E p] at hm;rw [hm] at HC;clear hm;generalize aj L E p=t at*;unfold cy at*;obtain ⟨HR,lR,lB⟩:=qav;clear hr;go_enter func327,ntmps327;go_wp2_with fail;refine .mono qrD ?_;rintro e w1 ⟨rfl,r1,b1⟩;have HR1:Hid (RL w1 R g cap B L E (p+1)):=qf (r1 hl.out);have h1:=qm;obtain ⟨y1,zk1⟩:=qad;obtain ⟨k10,k11,k12,k13,k14,k15,kf10,kf11,kf12,kf13,kf14,kf15⟩:=qW;clear r1 b1;go_wp2_with fail;refine ((HC.out _)).mono ?_;rintro e w2 ⟨rfl,b2⟩;have h2:=qdt;obtain ⟨y2,zk2⟩:=qaP;have k20:w2.cell? ⟨w.heap.size,0,ZU⟩=ZV (ZZ ZY 0):=(But.of_below b2).cell (show w.heap.size≠R by omega) (have hv:=k10;qnj);have k21:w2.cell? ⟨w.heap.size,1,ZU⟩=ZV (ZZ ZY 0):=(But.of_below b2).cell (show w.heap.size≠R by omega) (have hv:=k11;qnj);have k22:w2.cell? ⟨w.heap.size,2,ZU⟩=ZV (ZZ ZY 0):=(But.of_below b2).cell (show w.heap.size≠R by omega) (have hv:=k12;qnj);have k23:w2.cell? ⟨w.heap.size,3,ZU⟩=ZV (ZZ ZY 0):=(But.of_below b2).cell (show w.heap.size≠R by omega) (have hv:=k13;qnj);have k24:w2.cell? ⟨w.heap.size,4,ZU⟩=ZV (Zx ⟨#[]⟩):=(But.of_below b2).cell (show w.heap.size≠R by omega) (have hv:=k14;qnj);have k25:w2.cell? ⟨w.heap.size,5,ZU⟩=ZV (ZZ ZY 0):=(But.of_below b2).cell (show w.heap.size≠R by omega) (have hv:=k15;qnj)
 have kf20:w2.frozen? ⟨w.heap.size,0,ZU⟩=Zz:=(But.of_below b2).frozen (show w.heap.size≠R by omega) qnt (have hv:=kf10;qnq);have kf21:w2.frozen? ⟨w.heap.size,1,ZU⟩=Zz:=(But.of_below b2).frozen (show w.heap.size≠R by omega) qnt (have hv:=kf11;qnq);have kf22:w2.frozen? ⟨w.heap.size,2,ZU⟩=Zz:=(But.of_below b2).frozen (show w.heap.size≠R by omega) qnt (have hv:=kf12;qnq);have kf23:w2.frozen? ⟨w.heap.size,3,ZU⟩=Zz:=(But.of_below b2).frozen (show w.heap.size≠R by omega) qnt (have hv:=kf13;qnq);have kf24:w2.frozen? ⟨w.heap.size,4,ZU⟩=Zz:=(But.of_below b2).frozen (show w.heap.size≠R by omega) qnt (have hv:=kf14;qnq);have kf25:w2.frozen? ⟨w.heap.size,5,ZU⟩=Zz:=(But.of_below b2).frozen (show w.heap.size≠R by omega) qnt (have hv:=kf15;qnq);have za2:w1.heap.size<w2.heap.size:=(by have:=b2.size;first|omega|(simp at this;omega));have a20:w2.cell? ⟨w1.heap.size,0,ZU⟩=ZV (ZZ ZY t.kY):=(But.of_below b2).cell (show w1.heap.size≠R by omega) qnp;have a21:w2.cell? ⟨w1.heap.size,1,ZU⟩=ZV (ZZ ZY t.num):=(But.of_below b2).cell (show w1.heap.size≠R by omega) qnp;have a22:w2.cell? ⟨w1.heap.size,2,ZU⟩=ZV (ZZ ZY t.col):=(But.of_below b2).cell (show w1.heap.size≠R by omega) qnp;have a23:w2.cell? ⟨w1.heap.size,3,ZU⟩=ZV (ZZ ZY t.row):=(But.of_below b2).cell (show w1.heap.size≠R by omega) qnp
 have a24:w2.cell? ⟨w1.heap.size,4,ZU⟩=ZV (Zx ⟨t.text.toArray⟩):=(But.of_below b2).cell (show w1.heap.size≠R by omega) qnp;have a25:w2.cell? ⟨w1.heap.size,5,ZU⟩=ZV (ZZ ZY (t.frm:Int)):=(But.of_below b2).cell (show w1.heap.size≠R by omega) qnp;have af20:w2.frozen? ⟨w1.heap.size,0,ZU⟩=Zz:=(But.of_below b2).frozen (show w1.heap.size≠R by omega) qnt qnp;have af21:w2.frozen? ⟨w1.heap.size,1,ZU⟩=Zz:=(But.of_below b2).frozen (show w1.heap.size≠R by omega) qnt qnp;have af22:w2.frozen? ⟨w1.heap.size,2,ZU⟩=Zz:=(But.of_below b2).frozen (show w1.heap.size≠R by omega) qnt qnp;have af23:w2.frozen? ⟨w1.heap.size,3,ZU⟩=Zz:=(But.of_below b2).frozen (show w1.heap.size≠R by omega) qnt qnp;have af24:w2.frozen? ⟨w1.heap.size,4,ZU⟩=Zz:=(But.of_below b2).frozen (show w1.heap.size≠R by omega) qnt qnp;have af25:w2.frozen? ⟨w1.heap.size,5,ZU⟩=Zz:=(But.of_below b2).frozen (show w1.heap.size≠R by omega) qnt qnp;have HR2:Hid (RL w2 R g cap B L E (p+1)):=qf (RL.below (have hv:=HR1.out;qnk) b2);clear b2 k10 k11 k12 k13 k14 k15 kf10 kf11 kf12 kf13 kf14 kf15 zk1;go_wp2_with fail
 exact bodyPost_ret (v:=.agg #[ZZ ZY t.kY,ZZ ZY t.num,ZZ ZY t.col,ZZ ZY t.row,Zx ⟨t.text.toArray⟩,ZZ ZY (t.frm:Int)]) (by simp [results,results327,go_sem,k20,a20,k21,a21,k22,a22,k23,a23,k24,a24,k25,a25]) rfl ⟨rfl,(have hv:=HR2.out;(by with_reducible repeat' (first|exact hv|refine RL.far ?_ qoq _ _|refine RL.alloc ?_ _))),(have hv:=h2;qni)⟩
theorem oD (hL:L.length<=1000) (hc:cap<=maxLen) (hr:RL w R g cap B L E p) (hm:aB L p=Zz):
 Calls ZW 327 #[Zv (ZV ⟨R,0,ZU⟩)] w fun e w'=>e=.panicked (rn (whr L E p))/\But R w w':=by
 have hN:=qbh;have HC:=qf (j4 (aj L E p));rw [nS];rw [jX L E p] at hm;rw [hm] at HC;clear hm;generalize aj L E p=t at*;unfold cy at*;obtain ⟨HR,lR,lB⟩:=qav;clear hr;go_enter func327,ntmps327;go_wp2_with fail;refine .mono qrD ?_;rintro e w1 ⟨rfl,r1,b1⟩;have h1:=qm;obtain ⟨y1,zk1⟩:=qad;obtain ⟨k10,k11,k12,k13,k14,k15,kf10,kf11,kf12,kf13,kf14,kf15⟩:=qW;clear b1;go_wp2_with fail;refine .mono qrE ?_;rintro e w2 ⟨rfl,b2⟩;have a20:w2.cell? ⟨w1.heap.size,0,ZU⟩=ZV (ZZ ZY t.kY):=aa b2 qnp;have a21:w2.cell? ⟨w1.heap.size,1,ZU⟩=ZV (ZZ ZY t.num):=aa b2 qnp;have a22:w2.cell? ⟨w1.heap.size,2,ZU⟩=ZV (ZZ ZY t.col):=aa b2 qnp;have a23:w2.cell? ⟨w1.heap.size,3,ZU⟩=ZV (ZZ ZY t.row):=aa b2 qnp;have a24:w2.cell? ⟨w1.heap.size,4,ZU⟩=ZV (Zx ⟨t.text.toArray⟩):=aa b2 qnp;have a25:w2.cell? ⟨w1.heap.size,5,ZU⟩=ZV (ZZ ZY (t.frm:Int)):=aa b2 qnp;have h2:=qdt;go_wp2_with fail;exact ⟨rfl,rfl,(have hv:=h2;(by with_reducible repeat' (first|exact hv|refine zBs ?_ qoq _ _|refine zBa ?_ _)))⟩
