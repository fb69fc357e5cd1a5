import Derived.Test.YtofcnebekmjdoaaGreatDoorKae
import Derived.Test.YtofcnebekmjdoaaGreatDoorKai
import Derived.Test.YtofcnebekmjdoaaGreatDoorKam
set_option maxHeartbeats 4000000
set_option maxRecDepth 100000
namespace Go.Proofs.YtofcnebekmjdoaaGreatDoor.Gn
open Go.ChangeShapes Go.WideShapes Go.ChangeAt Go.RowKit
theorem at_some {α:Type} {xs:List α} {n i:Nat} (h:xs.length=n) (hi:i<n):∃y,xs[i]?=some y:=⟨xs[i],List.getElem?_eq_getElem (by omega)⟩
theorem field_int {H:Type} {enc:TypeId×Value→H} {W:World} {base:Nat} {spare:Nat→Bool} {held:Bool} {n i:Nat} {v:Value} {xs:List (DataW H×List MemPlace)} {m:Nat}
  (h:DataW.trod enc Tryz.prog W base spare held n 3 [v]=xs[i]?) (hl:xs.length=m) (hi:i<m):∃k:Int,v=.int .i64 k∧-9223372036854775808≤k∧k≤9223372036854775807:=by
 obtain ⟨y,hy⟩:=at_some hl hi
 obtain ⟨k,e,_,hw⟩:=DataW.trod_int Tryz.underlying3 (h.trans hy)
 exact ⟨k,by simpa using e,wf_i64 hw⟩
theorem open_list {α:Type}(dflt:α){H:Type}{enc:TypeId×Value→H}{W:World}{base:Nat}{spare:Nat→Bool}{held:Bool}(K:Kind α) (good:α→Prop){t e:TypeId}(ht:Tryz.prog.underlying t=some (.slice e)) (hc:Tryz.prog.cellsOf e=K.size)
  (hel:∀n cs x,DataW.trod enc Tryz.prog W base spare held n e cs=some x→∃y:α,cs=K.cells y∧good y)
  {fuel:Nat}{a:Option Addr}{len cap:Nat}{x:DataW H×List MemPlace}(h:DataW.trod enc Tryz.prog W base spare held fuel t [.slice a len cap]=some x):
  ∃L:List α,len=L.length∧Lies K W a cap L∧(∀ y∈L,good y)∧(L.length =0∨∃es sp,x.1=.slice es sp∧es.length=L.length):=by
 rcases Go.Deep.open_slice ht h with ⟨hcs,-⟩|⟨ad,l,c,m,n,D,Pl,hcs,-,hl,hm,hmm,hx,hD⟩
 ·simp at hcs
  obtain ⟨rfl,rfl,rfl⟩:=hcs
  exact ⟨[],rfl,lies_nil K W,(fun _ h=>by cases h),Or.inl rfl⟩
 ·simp at hcs
  obtain ⟨rfl,rfl,rfl⟩:=hcs
  have hlm:len≤m:=by rw[hmm];split<;>omega
  have each:∀i,i<len→∃y:α,good y∧∀j u,(K.cells y)[j]?=some u→W.cell? (ad.add (i*K.size+j))=some u:=fun i hi=>by
   obtain ⟨cs,h1,h2⟩:=hD i (by omega)
   obtain ⟨y,rfl,hg⟩:=hel _ _ _ h2
   obtain ⟨_,hlen,hcell⟩:=World.cells?_some h1
   refine ⟨y,hg,fun j u hj=>?_⟩
   have hj':j<K.size:=by have :=(List.getElem?_eq_some_iff.1 hj).1;rwa[K.len] at this
   have:= hcell j (by omega)
   rw[Go.Deep.add_add,hc] at this
   rw[this];exact hj
  obtain ⟨F,hF⟩:=@Go.Deep.choose_lt α ⟨dflt⟩ _ _ each
  have hlen:((List.range len).map F).length=len:=by simp
  refine ⟨(List.range len).map F,hlen.symm,⟨by rw[hlen];omega,(fun h=>by cases h),?_⟩,?_,Or.inr ⟨_,_,by rw[hx],by simp⟩⟩
  ·by_cases h0:len=0
   ·subst h0;exact Or.inl rfl
   right
   have hne:∃u,(K.cells (F 0))[0]?=some u:=at_some (K.len (F 0)) K.pos
   obtain ⟨u0,hu0⟩:=hne
   have hF0:=(hF 0 (by omega)).2 0 u0 hu0
   obtain ⟨b,off,spot⟩:=ad
   have hs:spot=none:=by simpa[Addr.add] using World.cell?_spot hF0
   subst hs
   refine ⟨b,off,rfl,?_,fun j u hj=>?_⟩
   ·rw[addr_add] at hF0;exact World.block_lt_of_cell? W _ hF0
   ·have hjl:j<len*K.size:=by
     have :=(List.getElem?_eq_some_iff.1 hj).1
     rw[K.flat_length,hlen] at this;exact this
    have hi:j/K.size<len:=Nat.div_lt_of_lt_mul (by rw[Nat.mul_comm];exact hjl)
    have hdm:=Nat.div_add_mod j K.size
    have hat:((List.range len).map F)[j/K.size]?=some (F (j/K.size)):=by simp[hi]
    have hmod:j%K.size<K.size:=Nat.mod_lt _ K.pos
    obtain ⟨v,hv⟩:=at_some (K.len (F (j /K.size))) hmod
    have hj2:=K.flat_at hat hv
    have he:j/K.size*K.size+j%K.size=j:=by rw[Nat.mul_comm];exact hdm
    rw[he,hj] at hj2
    cases hj2
    have:= (hF _ hi).2 _ _ hv
    rw[he,addr_add] at this
    exact this
  ·intro y hy
   obtain ⟨i,hi,rfl⟩:=List.mem_map.1 hy
   exact (hF i (List.mem_range.1 hi)).1
end Go.Proofs.YtofcnebekmjdoaaGreatDoor.Gn
namespace Go.Proofs.YtofcnebekmjdoaaGreatDoor.Bk
theorem getE_first {L:List (Int ×Int)}{acc:Int}{k:Nat}(hk:k<L.length) (h:∀j,j<k→(L.getD j (0,0)).1≠acc) (h1:(L.getD k (0,0)).1=acc):getE L acc=(L.getD k (0,0)).2:=by
 induction L generalizing k with
 |nil=>simp at hk
 |cons e r ih=>
  cases k with
  |zero=>simp at h1;simp[getE,h1]
  |succ k=>
   have h0:=h 0 (by omega)
   simp at h0
   simp only[getE,if_neg h0]
   have:= ih (k:=k) (by simpa using hk) (fun j hj=>by have:= h (j +1) (by omega);simpa using this) (by simpa using h1)
   rw[this];simp
end Go.Proofs.YtofcnebekmjdoaaGreatDoor.Bk
namespace Go.Proofs.YtofcnebekmjdoaaGreatDoor.Au
theorem Au.same {a b:Au} (h1:a.card=b.card) (h2:a.shop=b.shop) (h3:a.sum=b.sum) (h4:a.cap=b.cap) (h5:a.ref=b.ref) (h6:a.dis=b.dis) (h7:a.till=b.till) (h8:a.shut=b.shut):a=b:=by
 cases a;cases b;simp only at h1 h2 h3 h4 h5 h6 h7 h8;subst h1 h2 h3 h4 h5 h6 h7 h8;rfl
end Go.Proofs.YtofcnebekmjdoaaGreatDoor.Au
namespace Go.Proofs.YtofcnebekmjdoaaGreatDoor.Bk
open Go.RowKit
theorem getf_any (x1 x2:Int) (c:Nat) (acc:Int) (w:World) (hc:w.cell? ⟨c,0,none⟩=some (.int .i64 acc)) (hcl:c<w.heap.size):
  Calls Tryz.prog 57 #[.agg #[.int .i64 x1,.int .i64 x2],.pointer (some ⟨c,0,none⟩)] w fun e w'=>e=.returned (.bool (x1==acc))∧Below w.heap.size w w':=by
 have hc1:∀o,(w.alloc o).cell? ⟨c,0,none⟩=some (.int .i64 acc):=fun o=>by rw[World.cell?_alloc_past _ _ _ hcl];exact hc
 go_enter Tryz.func57,Tryz.ntmps57
 go_wp2
 go_ret
 exact ⟨rfl,(Below.refl _ _).alloc (Nat.le_refl _) _⟩
theorem indexFunc_any (a:Option Addr) (cap:Nat) (L:List (Int ×Int)) (c:Nat) (acc:Int) (w:World) (hL:Ents w a L) (hc:w.cell? ⟨c,0,none⟩=some (.int .i64 acc)) (hcl:c<w.heap.size):
  Calls Tryz.prog 56 #[.slice a L.length cap,.func (.func 57) #[] #[.pointer (some ⟨c,0,none⟩)]] w fun e w'=>
   ∃r:Int,e=.returned (.int .i64 r)∧Below w.heap.size w w'∧
    ((r=-1∧∀j,j<L.length→(L.getD j (0,0)).1≠acc)∨(∃k:Nat,r=k∧k<L.length∧(L.getD k (0,0)).1=acc∧∀j,j<k→(L.getD j (0,0)).1≠acc)):=by
 obtain ⟨hm,hL⟩:=hL
 unfold maxLen at hm
 go_enter Tryz.func56,Tryz.ntmps56
 go_wp2
 go_loopw[8](fun i wr=>∃k:Nat,k≤L.length∧i=.int .i64 k∧Below w.heap.size w wr∧Hid (∀ j,j<k→(L.getD j (0,0)).1≠acc)) (fun i _=>L.length-(intOf i).toNat)
 case atStart=>exact ⟨0,Nat.zero_le _,rfl,Below.refl _ _,fun j hj=>absurd hj (Nat.not_lt_zero _)⟩
 case round=>
  obtain ⟨k,hk,rfl,hb,hno⟩:=hrel
  by_cases hlt:k<L.length
  ·rcases hL with rfl|⟨b,off,rfl,hbl,hcell⟩
   ·simp at hlt
   obtain ⟨c1,c2⟩:=hcell k hlt
   have hlt':(k :Int)<L.length:=by omega
   have e1:=(hb.cell (p:=⟨b,off+k*2,none⟩) hbl).trans c1
   have e2:=(hb.cell (p:=⟨b,off+k*2+1,none⟩) hbl).trans c2
   have e3:=(hb.cell (p:=⟨c,0,none⟩) hcl).trans hc
   have hsz:=hb.size
   clear c1 c2 hcell
   generalize hx1:(L.getD k (0,0)).1=x1 at*
   generalize (L.getD k (0,0)).2=x2 at*
   have Hx1:Hid ((L.getD k (0,0)).1=x1):=hx1
   clear hx1
   by_cases hq:x1=acc
   ·have hq':(x1 ==acc)=true:=by simpa using hq
    have Hq:Hid (x1=acc):=hq
    clear hq
    go_wp2_with (go_at_call 57;refine (getf_any _ _ _ acc _ e3 (by omega)).mono ?_;rintro e w' ⟨rfl,hb1⟩)
    go_ret
    exact ⟨_,rfl,hb.trans (hb1.mono hsz),Or.inr ⟨k,rfl,hlt,Hx1.out.trans Hq.out,hno.out⟩⟩
   ·have hq':(x1==acc)=false:=by simpa using hq
    have Hq:Hid (¬x1=acc):=hq
    clear hq
    go_wp2_with (go_at_call 57;refine (getf_any _ _ _ acc _ e3 (by omega)).mono ?_;rintro e w' ⟨rfl,hb1⟩)
    go_roundw
    case rel=>
     refine ⟨k+1,by omega,by go_num,hb.trans (hb1.mono hsz),fun j hj=>?_⟩
     by_cases hjk:j=k
     ·subst hjk;rw[Hx1.out];exact Hq.out
     ·exact hno.out j (by omega)
    case measure=>simp[intOf];omega
  ·go_wp2
   go_ret
   exact ⟨_,rfl,hb,Or.inl ⟨rfl,fun j hj=>hno.out j (by omega)⟩⟩
theorem AnswersN.plain {w w':World}{r:List (Int ×Int)×Int}{e:Ending}(h:AnswersN w r e w'):Answers w r e w':=by
 obtain ⟨a,cap,h1,h2,-,-,h3⟩:=h
 exact ⟨a,cap,h1,h2,h3⟩
theorem get_any (a:Option Addr) (cap:Nat) (L:List (Int ×Int)) (acc:Int) (w:World) (hL:Ents w a L):
  Calls Tryz.prog 25 #[.slice a L.length cap,.int .i64 acc] w fun e w'=>e=.returned (.int .i64 (getE L acc))∧Below w.heap.size w w':=by
 have hmf:∀(fn:Fn) (first cap:Array Value) (w:World),(Instr.makeFunc fn first cap).run Tryz.prog w=.ok (.func fn first cap) w:=fun _ _ _ _=>rfl
 have b1:Below w.heap.size w (w.alloc (.cells #[.int .i64 acc] 3)):=(Below.refl _ _).alloc (Nat.le_refl _) _
 have hL1:=hL.below b1
 have hc1:(w.alloc (.cells #[.int .i64 acc] 3)).cell? ⟨w.heap.size,0,none⟩=some (.int .i64 acc):=by
  rw[World.cell?_alloc_at _ _ _ _ rfl];rfl
 obtain ⟨hm,hL2⟩:=hL
 unfold maxLen at hm
 go_enter Tryz.func25,Tryz.ntmps25
 go_wp2_with fail
 refine (indexFunc_any a cap L w.heap.size acc _ hL1 hc1 (by simp)).mono ?_
 rintro e w1 ⟨r,rfl,hb,hr⟩
 have bb:=b1.trans (hb.mono (by simp))
 rcases hr with ⟨rfl,hno⟩|⟨k,rfl,hlt,hq,hno⟩
 ·have HG:Hid (getE L acc=0):=getE_none hno
  clear hno hL1 hL2
  go_wp2
  go_ret
  exact ⟨ret_int HG.out.symm,bb⟩
 ·have HG:Hid (getE L acc=(L.getD k (0,0)).2):=getE_first hlt hno hq
  rcases hL2 with rfl|⟨b,off,rfl,hbl,hcell⟩
  ·simp at hlt
  obtain ⟨c1,c2⟩:=hcell k hlt
  have hlt':(k:Int)<L.length:=by omega
  have e2:=(bb.cell (p:=⟨b,off+k*2+1,none⟩) hbl).trans c2
  clear c1 c2 hcell hno hq hL1
  generalize (L.getD k (0,0)).2=x2 at*
  go_wp2
  go_ret
  exact ⟨ret_int HG.out.symm,bb⟩
end Go.Proofs.YtofcnebekmjdoaaGreatDoor.Bk
namespace Go.Proofs.YtofcnebekmjdoaaGreatDoor.Gn
open Go.RowKit
theorem Ints.keep {w w':World} {e:TypeId} {b:Nat} {L:List Int}(h:Ints w e b L) (hk:w'.heap[b]?=w.heap[b]?):Ints w' e b L:=hk.trans h
end Go.Proofs.YtofcnebekmjdoaaGreatDoor.Gn
namespace Go.Proofs.YtofcnebekmjdoaaGreatDoor.St
open Go.RowKit Go.Proofs.YtofcnebekmjdoaaGreatDoor.Gn
variable {w W W' : World} {n : Int} {v1 v2 : Value} {t : Ad}
theorem Gi.one (h:Gi w n v1 v2 t W) (u:Value):Gi w n u v2 t (W.setCell ⟨w.heap.size,1,none⟩ u):=by
 refine ⟨h.bel.setCell (by simp) _,?_,(heap_setCell_other _ _ _ _ (by simp)).trans h.tb,(heap_setCell_other _ _ _ _ (by simp)).trans h.res⟩
 have :=heap_setCell_same W w.heap.size 1 _ _ u h.box
 simpa [dob] using this
end Go.Proofs.YtofcnebekmjdoaaGreatDoor.St
namespace Go.Proofs.YtofcnebekmjdoaaGreatDoor.Dy
open Go.RowKit Go.Proofs.YtofcnebekmjdoaaGreatDoor.Gn
theorem Row.atC {α:Type}{K:Kind α}{e:TypeId}{W:World}{base:Nat}{v:Value}{L:List α}(h:Row K e W base v L):AtC K W v L:=by
 rcases h with ⟨rfl,rfl⟩|h|⟨g,rfl,hg,hl,hlt⟩
 ·exact ⟨none,0,rfl,lies_nil K W,Nat.le_refl _⟩
 ·obtain ⟨a,cap,h1,h2,-⟩:=lies_of_owns h
  refine ⟨a,cap,h1,h2,?_⟩
  rcases h.2 with ⟨h3,hn⟩|⟨g,cap',cur,h3,hg,hh,hn,hm,hc,hx⟩
  ·omega
  ·rw[h3] at h1;cases h1;exact hn
 ·exact ⟨_,_,rfl,hl,Nat.le_refl _⟩
end Go.Proofs.YtofcnebekmjdoaaGreatDoor.Dy
