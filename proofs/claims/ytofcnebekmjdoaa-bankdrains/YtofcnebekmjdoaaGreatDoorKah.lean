import Derived.Deep.RegionHeld3
import Derived.Test.YtofcnebekmjdoaaGreatDoorKag
set_option maxHeartbeats 4000000
set_option maxRecDepth 100000
namespace Go.Proofs.YtofcnebekmjdoaaGreatDoor.St
open Go.RowKit Go.Proofs.YtofcnebekmjdoaaGreatDoor.Gn
def av (a:Ad):Value:=.agg #[.int .i64 a.c,.int .i64 a.s,.int .i64 a.m,.int .i64 a.t]
def aob (a:Ad):Obj:=.cells #[.int .i64 a.c,.int .i64 a.s,.int .i64 a.m,.int .i64 a.t] 123
def kA:Kind Ad where
 cells:=fun a=>[.int .i64 a.c,.int .i64 a.s,.int .i64 a.m,.int .i64 a.t]
 size:=4
 len:=fun _=>rfl
 one:=fun x u hu=>by simp at hu;rcases hu with rfl|rfl|rfl|rfl<;>rfl
 pos:=by decide
theorem infoA:(Tryz.prog.info? 123).map (fun i=>(i.zero,i.size,i.bytes))=some (some (.agg #[.int .i64 0,.int .i64 0,.int .i64 0,.int .i64 0]),4,32):=by kernel_rfl
theorem infoI:(Tryz.prog.info? 3).map (fun i=>(i.zero,i.size,i.bytes))=some (some (.int .i64 0),1,8):=by kernel_rfl
theorem elemA:Elem Tryz.prog kA 36 123 32:=by
 obtain ⟨i,h1,h2,h3,h4⟩:=info_parts infoA
 exact ⟨Tryz.underlying36,i,_,h1,h2,h3,h4,rfl⟩
theorem elemI:Elem Tryz.prog kI 27 3 8:=by
 obtain ⟨i,h1,h2,h3,h4⟩:=info_parts infoI
 exact ⟨Tryz.underlying27,i,_,h1,h2,h3,h4,rfl⟩
theorem make_ints (n:Nat) (h:n≤1000000) (w:World):(Instr.makeSlice 27 (.int .i64 (n:Int)) (.int .i64 (n :Int))).run Tryz.prog w=.ok (.slice (some ⟨w.heap.size,0,none⟩) n n) (w.alloc (.cells (madeCells #[.int .i64 0] n) 3)):=
 run_make_row' 27 3 (.int .i64 0) 8 Tryz.underlying27 infoI rfl .i64 .i64 n (by omega) (by omega) w
theorem ad_cells {w:World}{a:Option Addr}{cap:Nat}{L:List Ad} (h:Lies kA w a cap L){i:Nat} (hi:i<L.length):
  ∃b off,a=some ⟨b,off,none⟩∧b<w.heap.size∧w.cell? ⟨b,off+i*4,none⟩=some (.int .i64 (L.getD i zA).c)∧w.cell? ⟨b,off+i*4+1,none⟩=some (.int .i64 (L.getD i zA).s)∧
   w.cell? ⟨b,off+i*4+2,none⟩=some (.int .i64 (L.getD i zA).m)∧w.cell? ⟨b,off+i*4+3,none⟩=some (.int .i64 (L.getD i zA).t):=by
 obtain ⟨b,off,ha,hb,hc⟩:=h.elem (i:=i) (x:=L.getD i zA) (by simp [List.getD,hi])
 exact ⟨b,off,ha,hb,hc 0 _ rfl,hc 1 _ rfl,hc 2 _ rfl,hc 3 _ rfl⟩
theorem aob_cells {W:World}{b:Nat}{t:Ad}(hb:W.heap[b]?=some (aob t)):
  W.cell? ⟨b,0,none⟩=some (.int .i64 t.c)∧W.cell? ⟨b,1,none⟩=some (.int .i64 t.s)∧W.cell? ⟨b,2,none⟩=some (.int .i64 t.m)∧W.cell? ⟨b,3,none⟩=some (.int .i64 t.t):=by
 unfold aob at hb
 refine ⟨?_,?_,?_,?_⟩<;>simp[World.cell?,hb]
def dv (n:Int) (v1 v2:Value):Value:=.agg #[.int .i64 n,v1,v2]
def dob (n:Int) (v1 v2:Value):Obj:=.cells #[.int .i64 n,v1,v2] 38
theorem dob_cells {W:World} {b:Nat} {n:Int} {v1 v2:Value}(hb:W.heap[b]?=some (dob n v1 v2)):W.cell? ⟨b,0,none⟩=some (.int .i64 n)∧W.cell? ⟨b,1,none⟩=some v1∧W.cell? ⟨b,2,none⟩=some v2:=by
 unfold dob at hb
 refine ⟨?_,?_,?_⟩<;>simp[World.cell?,hb]
theorem dob_free {W:World}{b:Nat}{n:Int}{v1 v2:Value}(hb:W.heap[b]?=some (dob n v1 v2)):W.frozen? ⟨b,0,none⟩=false∧W.frozen? ⟨b,1,none⟩=false∧W.frozen? ⟨b,2,none⟩=false:=by
 unfold dob at hb
 refine ⟨?_,?_,?_⟩<;>simp[World.frozen?,hb]
def put3 (W:World) (b:Nat) (n:Int) (v1 v2:Value):World:=((W.setCell ⟨b,0,none⟩ (.int .i64 n)).setCell ⟨b,1,none⟩ v1).setCell ⟨b,2,none⟩ v2
theorem put3_same {W:World}{b:Nat}{n:Int}{v1 v2:Value}(h:W.heap[b]?=some (dob n v1 v2)) (n':Int) (u1 u2:Value):(put3 W b n' u1 u2).heap[b]?=some (dob n' u1 u2):=by
 have h1:=heap_setCell_same W b 0 _ _ (.int .i64 n') h
 have h2:=heap_setCell_same _ b 1 _ _ u1 h1
 have h3:=heap_setCell_same _ b 2 _ _ u2 h2
 unfold put3
 rw[h3];simp[dob]
theorem put3_other (W:World) (b k:Nat) (n':Int) (u1 u2:Value) (h:k≠b):(put3 W b n' u1 u2).heap[k]?=W.heap[k]?:=by
 unfold put3
 rw[heap_setCell_other _ ⟨b,2,none⟩ _ _ h,heap_setCell_other _ ⟨b,1,none⟩ _ _ h,heap_setCell_other _ ⟨b,0,none⟩ _ _ h]
theorem put3_size (W:World) (b:Nat) (n':Int) (u1 u2:Value):(put3 W b n' u1 u2).heap.size=W.heap.size:=by simp[put3]
theorem put3_below {B:Nat} {w W:World}(hb:Below B w W) (b:Nat) (h:B≤b) (n':Int) (u1 u2:Value):Below B w (put3 W b n' u1 u2):=by
 have h0:B≤(⟨b,0,none⟩:Addr).block:=h
 have h1:B≤(⟨b,1,none⟩:Addr).block:=h
 have h2:B≤(⟨b,2,none⟩:Addr).block:=h
 exact ((hb.setCell h0 _).setCell h1 _).setCell h2 _
theorem ret_bool {a b:Bool}(h:a=b):Ending.returned (.bool a)=.returned (.bool b):=by rw[h]
theorem ret_int {k:IntKind}{a b:Int}(h:a=b):Ending.returned (.int k a)=.returned (.int k b):=by rw[h]
theorem hid {p:Prop}(h:p):Hid p:=h
def Ap (u v:Value):Prop:=∀k,u.ownBlock=some k→v.ownBlock=some k→False
theorem Ap.symm {u v:Value}(h:Ap u v):Ap v u:=fun k h1 h2=>h k h2 h1
theorem Row.set {α:Type}{K:Kind α}{e:TypeId}{w:World}{base:Nat}{v:Value}{L:List α}(h:Row K e w base v L) (p:Addr) (hp:p.block<base) (u:Value):Row K e (w.setCell p u) base v L:=
 h.keep (by simp) fun k hk _=>heap_setCell_other _ _ _ _ (by have:= (h.block_lt k hk).1;omega)
theorem Row.set_ne {α:Type} {K:Kind α} {e:TypeId} {w:World} {base:Nat} {v:Value} {L:List α} (h:Row K e w base v L) (p:Addr) (hp:∀k,v.ownBlock=some k→k≠p.block) (u:Value):Row K e (w.setCell p u) base v L:=
 h.keep (by simp) fun k hk _=>heap_setCell_other _ _ _ _ (hp k hk)
theorem row_at {α:Type} {K:Kind α} {e:TypeId} {W:World} {base:Nat} {v:Value} {L:List α}(h:Row K e W base v L):∃a cap,v=.slice a L.length cap∧Row K e W base (.slice a L.length cap) L∧Lies K W a cap L:=by
 obtain ⟨a,cap,rfl,hl,-,-⟩:=h.lies
 exact ⟨a,cap,rfl,h,hl⟩
def At {α:Type}(K:Kind α) (W:World) (v:Value) (L:List α):Prop:=∃a cap,v=.slice a L.length cap∧Lies K W a cap L
theorem At.below {α:Type}{K:Kind α}{W W':World}{v:Value}{L:List α}(h:At K W v L) (hb:Below W.heap.size W W'):At K W' v L:=by
 obtain ⟨a,cap,rfl,hl⟩:=h
 exact ⟨a,cap,rfl,hl.below hb⟩
theorem At.len {α:Type}{K:Kind α}{W:World}{v:Value}{L:List α}(h:At K W v L):L.length≤maxLen:=by
 obtain ⟨a,cap,rfl,hl⟩:=h
 exact hl.len
theorem Row.at {α:Type}{K:Kind α}{e:TypeId}{W:World}{base:Nat}{v:Value}{L:List α}(h:Row K e W base v L):At K W v L:=by
 obtain ⟨a,cap,h1,-,h2⟩:=row_at h
 exact ⟨a,cap,h1,h2⟩
def AnswersD (w:World) (r:Sd×Int) (e:Ending) (w':World):Prop:=
 ∃v1 v2,e=.returned (.tuple #[dv r.1.cap v1 v2,.int .i64 r.2])∧Row kI 3 w' w.heap.size v1 r.1.used∧Row kA 123 w' w.heap.size v2 r.1.adv∧Below w.heap.size w w'
theorem lim_ways (n:Int):(n<0∧Hid (limB n=false))∨(0 ≤n∧1000000<n∧Hid (limB n=false))∨(0≤n∧n≤1000000∧Hid (limB n=true)):=by
 by_cases h1:n<0
 ·exact Or.inl ⟨h1,limB_false (fun h=>by have:= h.1;omega)⟩
 by_cases h2:1000000<n
 ·exact Or.inr (Or.inl ⟨by omega,h2,limB_false (fun h=>by have:= h.2;omega)⟩)
 ·exact Or.inr (Or.inr ⟨by omega,by omega,limB_true ⟨by omega,by omega⟩⟩)
theorem isLimit_any (n:Int) (w:World):Calls Tryz.prog 65 #[.int .i64 n] w fun e w'=>e=.returned (.bool (limB n))∧w'=w:=by
 rcases lim_ways n with ⟨h1,H⟩|⟨h1,h2,H⟩|⟨h1,h2,H⟩
 all_goals
  go_enter Tryz.func65,Tryz.ntmps65
  go_wp2
  go_ret
  exact ⟨ret_bool (by first|exact H.out.symm| (rw[H.out];apply decide_eq_false;omega)| (rw[H.out];apply decide_eq_true;omega)),rfl⟩
theorem fits_ways (a:Ad) (n:Int):
  (a.c <0∧Hid (fitsB a n=false))∨(0 ≤a.c∧n≤a.c∧Hid (fitsB a n=false))∨(0≤a.c∧a.c<n∧a.s<0∧Hid (fitsB a n=false))∨(0 ≤a.c∧a.c<n∧0≤a.s∧8≤a.s∧Hid (fitsB a n=false))∨
  (0 ≤a.c∧a.c<n∧0≤a.s∧a.s<8∧a.m<1∧Hid (fitsB a n=false))∨(0≤a.c∧a.c<n∧0≤a.s∧a.s<8∧1≤a.m∧1000000<a.m∧Hid (fitsB a n=false))∨
  (0≤a.c∧a.c<n∧0≤a.s∧a.s<8∧1≤a.m∧a.m≤1000000∧a.t<0∧Hid (fitsB a n=false))∨(0 ≤a.c∧a.c<n∧0≤a.s∧a.s<8∧1≤a.m∧a.m≤1000000∧0≤a.t∧1000000<a.t∧Hid (fitsB a n=false))∨
  (0 ≤a.c∧a.c<n∧0≤a.s∧a.s<8∧1≤a.m∧a.m≤1000000∧0≤a.t∧a.t≤1000000∧Hid (fitsB a n=true)):=by
 by_cases h1:a.c<0
 ·exact Or.inl ⟨h1,fitsB_false fun h=>by have:= h.1;omega⟩
 by_cases h2:n≤a.c
 ·exact Or.inr (Or.inl ⟨by omega,h2,fitsB_false fun h=>by have :=h.2.1;omega⟩)
 by_cases h3:a.s<0
 ·exact Or.inr (Or.inr (Or.inl ⟨by omega,by omega,h3,fitsB_false fun h=>by have :=h.2.2.1;omega⟩))
 by_cases h4:8≤a.s
 ·exact Or.inr (Or.inr (Or.inr (Or.inl ⟨by omega,by omega,by omega,h4,fitsB_false fun h=>by have:= h.2.2.2.1;omega⟩)))
 by_cases h5:a.m<1
 ·exact Or.inr (Or.inr (Or.inr (Or.inr (Or.inl ⟨by omega,by omega,by omega,by omega,h5,fitsB_false fun h=>by have:= h.2.2.2.2.1;omega⟩))))
 by_cases h6:1000000<a.m
 ·exact Or.inr (Or.inr (Or.inr (Or.inr (Or.inr (Or.inl ⟨by omega,by omega,by omega,by omega,by omega,h6,fitsB_false fun h=>by have :=h.2.2.2.2.2.1;omega⟩)))))
 by_cases h7:a.t<0
 ·exact Or.inr (Or.inr (Or.inr (Or.inr (Or.inr (Or.inr (Or.inl ⟨by omega,by omega,by omega,by omega,by omega,by omega,h7,fitsB_false fun h=>by have :=h.2.2.2.2.2.2.1;omega⟩))))))
 by_cases h8:1000000<a.t
 ·exact Or.inr (Or.inr (Or.inr (Or.inr (Or.inr (Or.inr (Or.inr (Or.inl ⟨by omega,by omega,by omega,by omega,by omega,by omega,by omega,h8,fitsB_false fun h=>by have:= h.2.2.2.2.2.2.2;omega⟩)))))))
 exact Or.inr (Or.inr (Or.inr (Or.inr (Or.inr (Or.inr (Or.inr (Or.inr ⟨by omega,by omega,by omega,by omega,by omega,by omega,by omega,by omega,fitsB_true ⟨by omega,by omega,by omega,by omega,by omega,by omega,by omega,by omega⟩⟩)))))))
theorem isAdvice_any (a:Ad) (n:Int) (w:World):
  Calls Tryz.prog 66 #[av a,.int .i64 n] w fun e w'=>e=.returned (.bool (fitsB a n))∧Below w.heap.size w w':=by
 unfold av
 have b0:∀o,Below w.heap.size w (w.alloc o):=below_alloc w
 rcases fits_ways a n with ⟨h1,H⟩|⟨h1,h2,H⟩|⟨h1,h2,h3,H⟩|⟨h1,h2,h3,h4,H⟩|⟨h1,h2,h3,h4,h5,H⟩|⟨h1,h2,h3,h4,h5,h6,H⟩|⟨h1,h2,h3,h4,h5,h6,h7,H⟩|⟨h1,h2,h3,h4,h5,h6,h7,h8,H⟩|⟨h1,h2,h3,h4,h5,h6,h7,h8,H⟩
 all_goals
  go_enter Tryz.func66,Tryz.ntmps66
  go_wp2
  go_ret
  exact ⟨ret_bool (by first|exact H.out.symm|(rw[H.out];apply decide_eq_false;omega)|(rw[H.out];apply decide_eq_true;omega)),b0 _⟩
theorem new_ways (limit cards:Int):
  (cards <0∧Hid (newD limit cards=(zD,5)))∨(0 ≤cards∧8<cards∧Hid (newD limit cards=(zD,5)))∨
  (0 ≤cards∧cards≤8∧Hid (limB limit=false)∧Hid (newD limit cards=(zD,3)))∨
  (∃n:Nat,cards=n∧n≤8∧Hid (limB limit=true)∧Hid (newD limit cards=(⟨limit,List.replicate n 0,[]⟩,0))):=by
 by_cases h1:cards<0
 ·exact Or.inl ⟨h1,new_many (Or.inl h1)⟩
 by_cases h2:8<cards
 ·exact Or.inr (Or.inl ⟨by omega,h2,new_many (Or.inr h2)⟩)
 by_cases h3:Lim limit
 ·refine Or.inr (Or.inr (Or.inr ⟨cards.toNat,by omega,by omega,limB_true h3,?_⟩))
  exact new_ok (by omega) h3
 ·exact Or.inr (Or.inr (Or.inl ⟨by omega,by omega,limB_false h3,new_range (by omega) h3⟩))
theorem new_any (limit cards:Int) (w:World):Calls Tryz.prog 76 #[.int .i64 limit,.int .i64 cards] w (AnswersD w (newD limit cards)):=by
 have b0:Below w.heap.size w (w.alloc (dob 0 (.slice none 0 0) (.slice none 0 0))):=below_alloc w _
 have hB:(w.alloc (dob 0 (.slice none 0 0) (.slice none 0 0))).heap[w.heap.size]?=some (dob 0 (.slice none 0 0) (.slice none 0 0)):=heap_alloc_at _ _ _ rfl
 unfold dob at b0 hB
 have bad:∀(r:Int) (w':World),Hid (newD limit cards=(zD,r))→Below w.heap.size w w'→AnswersD w (newD limit cards) (.returned (.tuple #[.agg #[.int .i64 0,.slice none 0 0,.slice none 0 0],.int .i64 r])) w':=fun r w' h hb=>by
  rw[h.out];exact ⟨_,_,rfl,.nil,.nil,hb⟩
 rcases new_ways limit cards with ⟨h1,H⟩|⟨h1,h2,H⟩|⟨h1,h2,h3,H⟩|⟨n,rfl,h2,h3,H⟩
 ·go_enter Tryz.func76,Tryz.ntmps76
  go_wp2
  refine bodyPost_ret (v:=.tuple #[.agg #[.int .i64 0,.slice none 0 0,.slice none 0 0],.int .i64 5]) (by simp[results,Tryz.results76,go_sem];try rfl) rfl (bad _ _ H ?_)
  repeat refine Below.setCell ?_ (by simp) _
  exact b0
 ·go_enter Tryz.func76,Tryz.ntmps76
  go_wp2
  refine bodyPost_ret (v:=.tuple #[.agg #[.int .i64 0,.slice none 0 0,.slice none 0 0],.int .i64 5]) (by simp[results,Tryz.results76,go_sem];try rfl) rfl (bad _ _ H ?_)
  repeat refine Below.setCell ?_ (by simp) _
  exact b0
 ·go_enter Tryz.func76,Tryz.ntmps76
  go_wp2_with (go_at_call 65;refine (isLimit_any _ _).mono ?_;rw[h3.out];rintro e w' ⟨rfl,rfl⟩)
  refine bodyPost_ret (v:=.tuple #[.agg #[.int .i64 0,.slice none 0 0,.slice none 0 0],.int .i64 3]) (by simp[results,Tryz.results76,go_sem];try rfl) rfl (bad _ _ H ?_)
  repeat refine Below.setCell ?_ (by simp) _
  exact b0
 ·have hmk:=make_ints n (by omega)
  have hn0:(0 :Int)≤(n :Int):=by omega
  have hn8:(n:Int)≤8:=by omega
  go_enter Tryz.func76,Tryz.ntmps76
  go_wp2_with (go_at_call 65;refine (isLimit_any _ _).mono ?_;rw[h3.out];rintro e w' ⟨rfl,rfl⟩)
  have hI:=ints_made (w.alloc (dob limit (.slice (some ⟨w.heap.size+1,0,none⟩) n n) (.slice none 0 0))) 3 n
  refine bodyPost_ret (v:=.tuple #[.agg #[.int .i64 limit,.slice (some ⟨w.heap.size+1,0,none⟩) n n,.slice none 0 0],.int .i64 0]) (by simp[results,Tryz.results76,go_sem];try rfl) rfl ?_
  rw[H.out]
  refine ⟨_,_,rfl,?_,.nil,((below_alloc _ _).alloc (by simp) _)⟩
  have:= hI.row w.heap.size (by simp) (by simp[maxLen];omega)
  simpa[dob] using this
structure Ow (w:World) (n:Int) (v1 v2:Value) (W:World):Prop where
 bel:Below w.heap.size w W
 box:W.heap[w.heap.size]?=some (dob n v1 v2)
 res:W.heap[w.heap.size+1]?=some (dob 0 (.slice none 0 0) (.slice none 0 0))
theorem Ow.lt {w:World} {n:Int} {v1 v2:Value} {W:World} (h:Ow w n v1 v2 W):w.heap.size+1<W.heap.size:=lt_of_block h.res
theorem Ow.on {w:World}{n:Int}{v1 v2:Value}{W W':World}(h:Ow w n v1 v2 W) (hb:Below W.heap.size W W'):Ow w n v1 v2 W':=
 ⟨h.bel.trans (hb.mono h.bel.size),(hb.block _ (lt_of_block h.box)).trans h.box,(hb.block _ (lt_of_block h.res)).trans h.res⟩
theorem ow_new (w:World) (n:Int) (v1 v2:Value):Ow w n v1 v2 ((w.alloc (dob n v1 v2)).alloc (dob 0 (.slice none 0 0) (.slice none 0 0))):=
 ⟨(below_alloc _ _).alloc (by simp) _,by rw[Below.heap_alloc _ _ _ (by simp),heap_alloc_at _ _ _ rfl],heap_alloc_at _ _ _ (by simp)⟩
theorem Ow.one {w:World} {n:Int} {v1 v2:Value} {W:World} (h:Ow w n v1 v2 W) (u:Value):Ow w n u v2 (W.setCell ⟨w.heap.size,1,none⟩ u):=by
 refine ⟨h.bel.setCell (by simp) _,?_,(heap_setCell_other _ _ _ _ (by simp)).trans h.res⟩
 have:= heap_setCell_same W w.heap.size 1 _ _ u h.box
 simpa[dob] using this
theorem Ow.two {w:World} {n:Int} {v1 v2:Value} {W:World}(h:Ow w n v1 v2 W) (u:Value):Ow w n v1 u (W.setCell ⟨w.heap.size,2,none⟩ u):=by
 refine ⟨h.bel.setCell (by simp) _,?_,(heap_setCell_other _ _ _ _ (by simp)).trans h.res⟩
 have:= heap_setCell_same W w.heap.size 2 _ _ u h.box
 simpa[dob] using this
def Owned (w:World) (s:Sd) (e:Ending) (w':World):Prop:=
 ∃u1 u2,e=.returned (dv s.cap u1 u2)∧Row kI 3 w' w.heap.size u1 s.used∧(s.used ≠[]→w'.ownsRow w.heap.size 3 kI.size u1 s.used.length (kI.flat s.used))∧Row kA 123 w' w.heap.size u2 s.adv∧Ap u1 u2∧Below w.heap.size w w'
theorem own_keep{w w':World}{base:Nat}{e:TypeId}{size n:Nat}{v:Value}{xs:List Value}(h:w.ownsRow base e size v n xs) (hk:∀k,v.ownBlock=some k→w'.heap[k]?=w.heap[k]?):w'.ownsRow base e size v n xs:=by
 refine ⟨h.1,?_⟩
 rcases h.2 with h0|⟨g,cap,cur,rfl,hg,hh,r⟩
 ·exact Or.inl h0
 ·exact Or.inr ⟨g,cap,cur,rfl,hg,(hk g rfl).trans hh,r⟩
theorem own_mono {w:World} {base base':Nat} {e:TypeId} {size n:Nat} {v:Value} {xs:List Value}(h:w.ownsRow base e size v n xs) (hb:base'≤base):w.ownsRow base' e size v n xs:=by
 refine ⟨h.1,?_⟩
 rcases h.2 with h0|⟨g,cap,cur,rfl,hg,r⟩
 ·exact Or.inl h0
 ·exact Or.inr ⟨g,cap,cur,rfl,Nat.le_trans hb hg,r⟩
theorem own_any (s:Sd) (v1 v2:Value) (w:World) (h1:At kI w v1 s.used) (h2:At kA w v2 s.adv) (hu:s.used.length≤8) (ha:s.adv.length≤20):
  Calls Tryz.prog 163 #[dv s.cap v1 v2] w (Owned w s):=by
 obtain ⟨a1,c1,rfl,hl1⟩:=h1
 obtain ⟨a2,c2,rfl,hl2⟩:=h2
 have O0:=ow_new w s.cap (.slice a1 s.used.length c1) (.slice a2 s.adv.length c2)
 unfold dob at O0
 unfold dv
 go_enter Tryz.func163,Tryz.ntmps163
 go_upto_region 1 with fail
 generalize (w.alloc (.cells #[.int .i64 s.cap,.slice a1 s.used.length c1,.slice a2 s.adv.length c2] 38)).alloc (.cells #[.int .i64 0,.slice none 0 0,.slice none 0 0] 38)=W0 at*
 obtain ⟨C0,C1,C2⟩:=dob_cells O0.box
 have hz0:=O0.lt
 go_wp2_with (at_builtin;refine wpList_append elemI _ rfl _ _ rfl (w.heap.size +2) _ [] rfl .nil a1 s.used.length c1 s.used rfl rfl (hl1.below O0.bel) ?c3 ?c4 ?c5 ?_)
 case c3=>simp[maxLen];omega
 case c4=>simp;omega
 case c5=>omega
 intro v' w3 hrow hgrow hat hown
 have hb3:Below W0.heap.size W0 w3:=below_grown (L:=[]) (Below.refl _ _) hgrow (.nil:Row kI 3 W0 W0.heap.size (.slice none 0 0) []) (Nat.le_refl _) (Nat.le_refl _)
 have O3:=O0.on hb3
 clear O0 hb3 hgrow C0 C1 C2 hat
 obtain ⟨a3,c3,rfl,-,-⟩:=row_at hrow
 obtain ⟨C0,C1,C2⟩:=dob_cells O3.box
 obtain ⟨F0,F1,F2⟩:=dob_free O3.box
 go_upto_region 2 with fail
 have O4:=O3.one (.slice a3 s.used.length c3)
 have hrow4:=Row.set hrow ⟨w.heap.size,1,none⟩ (by simp<;>omega) (.slice a3 s.used.length c3)
 have hown4:s.used≠[]→(w3.setCell ⟨w.heap.size,1,none⟩ (.slice a3 s.used.length c3)).ownsRow (w.heap.size+2) 3 kI.size (.slice a3 s.used.length c3) s.used.length (kI.flat s.used):=fun hne=>own_keep (hown hne) fun k hk=>heap_setCell_other _ _ _ _ (by have :=((hown hne).lt k hk).1;simp<;>omega)
 clear O3 hrow hown C0 C1 C2 F0 F1 F2
 generalize w3.setCell ⟨w.heap.size,1,none⟩ (.slice a3 s.used.length c3)=W4 at*
 obtain ⟨C0,C1,C2⟩:=dob_cells O4.box
 have hz4:=O4.lt
 go_wp2_with (at_builtin;refine wpList_append elemA _ rfl _ _ rfl W4.heap.size _ [] rfl .nil a2 s.adv.length c2 s.adv rfl rfl (hl2.below O4.bel) ?c3 ?c4 ?c5 ?_)
 case c3=>simp[maxLen];omega
 case c4=>simp;omega
 case c5=>omega
 intro v5 w5 hrow5 hgrow5 _ _
 have hb5:Below W4.heap.size W4 w5:=below_grown (L:=[]) (Below.refl _ _) hgrow5 (.nil:Row kA 123 W4 W4.heap.size (.slice none 0 0) []) (Nat.le_refl _) (Nat.le_refl _)
 have O5:=O4.on hb5
 have hr1:=hrow4.below hb5
 have ho1:s.used≠[]→w5.ownsRow (w.heap.size +2) 3 kI.size (.slice a3 s.used.length c3) s.used.length (kI.flat s.used):=fun hne=>own_keep (hown4 hne) fun k hk=>hb5.block _ ((hown4 hne).lt k hk).2
 have hap:Ap (.slice a3 s.used.length c3) v5:=fun k k1 k2=>by have:= (hrow4.block_lt k k1).2;have :=(hrow5.block_lt k k2).1;omega
 have hr2:=hrow5.mono (base':=w.heap.size+2) (by omega)
 clear O4 hb5 hgrow5 C0 C1 C2 hrow4 hown4 hrow5
 obtain ⟨a5,c5,rfl,-,-⟩:=row_at hr2
 obtain ⟨C0,C1,C2⟩:=dob_cells O5.box
 obtain ⟨F0,F1,F2⟩:=dob_free O5.box
 go_upto_region 3 with fail
 have O6:=O5.two (.slice a5 s.adv.length c5)
 have hr3:=Row.set hr1 ⟨w.heap.size,2,none⟩ (by simp<;>omega) (.slice a5 s.adv.length c5)
 have hr4:=Row.set hr2 ⟨w.heap.size,2,none⟩ (by simp<;>omega) (.slice a5 s.adv.length c5)
 have ho2:s.used≠[]→(w5.setCell ⟨w.heap.size,2,none⟩ (.slice a5 s.adv.length c5)).ownsRow (w.heap.size+2) 3 kI.size (.slice a3 s.used.length c3) s.used.length (kI.flat s.used):=fun hne=>own_keep (ho1 hne) fun k hk=>heap_setCell_other _ _ _ _ (by have :=((ho1 hne).lt k hk).1;simp<;>omega)
 clear O5 hr1 hr2 ho1 C0 C1 C2 F0 F1 F2
 generalize w5.setCell ⟨w.heap.size,2,none⟩ (.slice a5 s.adv.length c5)=W6 at*
 obtain ⟨C0,C1,C2⟩:=dob_cells O6.box
 obtain ⟨R0,R1,R2⟩:=dob_cells O6.res
 obtain ⟨E0,E1,E2⟩:=dob_free O6.res
 go_wp2
 refine bodyPost_ret (v:=.agg #[.int .i64 s.cap,.slice a3 s.used.length c3,.slice a5 s.adv.length c5]) (by simp[results,Tryz.results163,go_sem,R0,R1,R2];try rfl) rfl ⟨_,_,rfl,?_,?_,?_,hap,?_⟩
 ·refine Row.mono (base:=w.heap.size+2) ?_ (by omega)
  repeat refine Row.set ?_ _ (by simp) _
  exact hr3
 ·intro hne
  refine own_mono (base:=w.heap.size+2) ?_ (by omega)
  exact own_keep (ho2 hne) fun k hk=>by
   have:= ((ho2 hne).lt k hk).1
   repeat refine (heap_setCell_other _ _ _ _ (by simp<;>omega)).trans ?_
   rfl
 ·refine Row.mono (base:=w.heap.size+2) ?_ (by omega)
  repeat refine Row.set ?_ _ (by simp) _
  exact hr4
 ·repeat refine Below.setCell ?_ (by simp) _
  exact O6.bel
theorem sums_step {n:Nat} {L:List Ad} {k:Nat}(hk:k<L.length){j:Nat}(hj:(L.getD k zA).c=(j :Int)) (x:Int) (hx:x=sumOf (j :Int) (L.take k)):
  (sums n (L.take k)).set j (x+(L.getD k zA).m)=sums n (L.take (k +1)):=by
 rw[take_at hk,←sums_more n (L.take k) (L.getD k zA) (by omega),hx,hj]
 simp
theorem given_any (s:Sd) (v1 v2:Value) (w:World) (h1:At kI w v1 s.used) (h2:At kA w v2 s.adv) (hu:s.used.length≤8) (ha:s.adv.length≤20) (hg:GoodA s s.adv.length):
  Calls Tryz.prog 67 #[dv s.cap v1 v2] w fun e w'=>∃b,e=.returned (.slice (some ⟨b,0,none⟩) s.used.length s.used.length)∧w.heap.size≤b∧Ints w' 3 b (sums s.used.length s.adv)∧Below w.heap.size w w':=by
 obtain ⟨a1,c1,rfl,hl1⟩:=h1
 obtain ⟨a2,c2,rfl,hl2⟩:=h2
 have hmk:=make_ints s.used.length (by omega)
 have hI0:=ints_made (w.alloc (dob s.cap (.slice a1 s.used.length c1) (.slice a2 s.adv.length c2))) 3 s.used.length
 have hb0:Below w.heap.size w ((w.alloc (dob s.cap (.slice a1 s.used.length c1) (.slice a2 s.adv.length c2))).alloc (.cells (madeCells #[.int .i64 0] s.used.length) 3)):=(below_alloc _ _).alloc (by simp) _
 have hB:((w.alloc (dob s.cap (.slice a1 s.used.length c1) (.slice a2 s.adv.length c2))).alloc (.cells (madeCells #[.int .i64 0] s.used.length) 3)).heap[w.heap.size]?=some (dob s.cap (.slice a1 s.used.length c1) (.slice a2 s.adv.length c2)):=by rw[Below.heap_alloc _ _ _ (by simp),heap_alloc_at _ _ _ rfl]
 have hbk:(w.alloc (dob s.cap (.slice a1 s.used.length c1) (.slice a2 s.adv.length c2))).heap.size=w.heap.size+1:=by simp
 rw[hbk] at hI0
 clear hbk
 rw[←sums_nil] at hI0
 unfold dob at hI0 hb0 hB
 unfold dv
 go_enter Tryz.func67,Tryz.ntmps67
 go_upto_region 2 with fail
 generalize (w.alloc (.cells #[.int .i64 s.cap,.slice a1 s.used.length c1,.slice a2 s.adv.length c2] 38)).alloc (.cells (madeCells #[.int .i64 0] s.used.length) 3)=W0 at*
 obtain ⟨C0,C1,C2⟩:=dob_cells hB
 clear hmk
 go_wp2
 clear C0 C1 C2 hB
 go_loopw[13](fun i wr=>∃k:Nat,k≤s.adv.length∧i=.int .i64 k∧Ints wr 3 (w.heap.size +1) (sums s.used.length (s.adv.take k))∧Below w.heap.size w wr) (fun i _=>s.adv.length-(intOf i).toNat)
 case atStart=>exact ⟨0,Nat.zero_le _,rfl,by simpa using hI0,hb0⟩
 case round=>
  obtain ⟨k,hk,rfl,hI,hb⟩:=hrel
  clear hI0 hb0
  generalize wr=W at*
  by_cases hlt:k<s.adv.length
  ·have hlt':(k :Int)<s.adv.length:=by omega
   obtain ⟨b,off,rfl,hbl,e1,e2,e3,e4⟩:=ad_cells (hl2.below hb) hlt
   obtain ⟨f1,f2,f3,f4,f5,f6,f7,f8⟩:=hg k hlt
   obtain ⟨j,hj⟩:∃j:Nat,(s.adv.getD k zA).c=(j :Int):=⟨_,(Int.toNat_of_nonneg f1).symm⟩
   have hjn:j<s.used.length:=by omega
   have hjn':(j :Int)<s.used.length:=by omega
   have HS:=hid (fun x hx=>sums_step (n:=s.used.length) hlt hj x hx)
   obtain ⟨q1,q2⟩:=hg.small ha (j :Int) k
   have hsj:=sums_getD s.used.length (s.adv.take k) hjn
   rw[hj] at e1
   have hI1:=hI.alloc (aob (s.adv.getD k zA))
   have hb1:=hb.alloc hb.size (aob (s.adv.getD k zA))
   have hA:(W.alloc (aob (s.adv.getD k zA))).heap[W.heap.size]?=some (aob (s.adv.getD k zA)):=heap_alloc_at _ _ _ rfl
   have hWs:=hI.lt
   unfold aob at hI1 hb1 hA
   rw[hj] at hI1 hb1 hA
   generalize (s.adv.getD k zA).m=m at*
   generalize (s.adv.getD k zA).s=sh at*
   generalize (s.adv.getD k zA).t=ti at*
   clear hI
   go_upto_region 5 with fail
   clear e1 e2 e3 e4 hb
   generalize W.alloc (.cells #[.int .i64 j,.int .i64 sh,.int .i64 m,.int .i64 ti] 123)=W1 at*
   obtain ⟨A0,A1,A2,A3⟩:=aob_cells (t:=⟨j,sh,m,ti⟩) hA
   dsimp only at A0 A1 A2 A3
   have I0:=hI1.cell (i:=j) (by rw[sums_length];exact hjn)
   have I1:=hI1.free j
   rw[hsj] at I0
   clear hsj
   have HS1:=hid (HS.out _ rfl)
   clear HS
   generalize sumOf (j:Int) (s.adv.take k)=x at*
   generalize W.heap.size=Z at*
   go_region
   all_goals
    go_wp2
    go_roundw
    case rel=>exact ⟨k+1,by omega,by go_num,by rw[←HS1.out];exact hI1.set j (x +m),(hb1.setCell (by simp) _).drew⟩
    case measure=>simp[intOf];omega
  ·have hke:k=s.adv.length:=by omega
   subst hke
   rw[List.take_length] at hI
   go_wp2
   go_ret
   exact ⟨w.heap.size+1,rfl,by omega,hI,hb⟩
theorem wrong_any (s:Sd) (v1 v2:Value) (w:World) (h1:At kI w v1 s.used) (h2:At kA w v2 s.adv):
  Calls Tryz.prog 30 #[dv s.cap v1 v2] w fun e w'=>e=.returned (.int .i64 (wrongD s))∧Below w.heap.size w w':=by
 have hm1:=h1.len
 have hm2:=h2.len
 unfold maxLen at hm1 hm2
 have hh1:=h1
 have hh2:=h2
 obtain ⟨a1,c1,rfl,hl1⟩:=h1
 obtain ⟨a2,c2,rfl,hl2⟩:=h2
 have b0:Below w.heap.size w (w.alloc (dob s.cap (.slice a1 s.used.length c1) (.slice a2 s.adv.length c2))):=below_alloc _ _
 have hB:(w.alloc (dob s.cap (.slice a1 s.used.length c1) (.slice a2 s.adv.length c2))).heap[w.heap.size]?=some (dob s.cap (.slice a1 s.used.length c1) (.slice a2 s.adv.length c2)):=heap_alloc_at _ _ _ rfl
 unfold dv
 by_cases h8:8<s.used.length
 ·have HG:=hid (wrong_many (s:=s) (Or.inl h8))
  have h8':(8:Int)<s.used.length:=by omega
  unfold dob at b0
  go_enter Tryz.func30,Tryz.ntmps30
  go_wp2
  go_ret
  exact ⟨ret_int HG.out.symm,b0⟩
 have h8':(s.used.length :Int)≤8:=by omega
 by_cases h20:20<s.adv.length
 ·have HG:=hid (wrong_many (s:=s) (Or.inr h20))
  have h20':(20:Int)<s.adv.length:=by omega
  unfold dob at b0
  go_enter Tryz.func30,Tryz.ntmps30
  go_wp2
  go_ret
  exact ⟨ret_int HG.out.symm,b0⟩
 have h20':(s.adv.length :Int)≤20:=by omega
 have g8:s.used.length≤8:=by omega
 have g20:s.adv.length≤20:=by omega
 clear h8 h20
 by_cases hc:Lim s.cap
 case neg=>
  have HG:=hid (wrong_cap g8 g20 hc)
  have HL:=hid (limB_false hc)
  unfold dob at b0
  go_enter Tryz.func30,Tryz.ntmps30
  go_wp2_with (go_at_call 65;refine (isLimit_any _ _).mono ?_;rw[HL.out];rintro e w' ⟨rfl,rfl⟩)
  go_ret
  exact ⟨ret_int HG.out.symm,b0⟩
 case pos=>
  have HL:=hid (limB_true hc)
  have hC:=hid hc
  clear hc
  unfold dob at b0 hB
  go_enter Tryz.func30,Tryz.ntmps30
  go_upto_region 1 with fail
  generalize w.alloc (.cells #[.int .i64 s.cap,.slice a1 s.used.length c1,.slice a2 s.adv.length c2] 38)=W0 at*
  obtain ⟨C0,C1,C2⟩:=dob_cells hB
  have hz:=lt_of_block hB
  go_wp2_with (go_at_call 65;refine (isLimit_any _ _).mono ?_;rw[HL.out];rintro e W0 ⟨rfl,rfl⟩)
  go_loopw[24](fun i wr=>∃k:Nat,k≤s.adv.length∧i=.int .i64 k∧Hid (GoodA s k)∧Below W0.heap.size W0 wr) (fun i _=>s.adv.length-(intOf i).toNat)
  case atStart=>exact ⟨0,Nat.zero_le _,rfl,goodA_zero s,Below.refl _ _⟩
  case round=>
   obtain ⟨k,hk,rfl,hg,hb⟩:=hrel
   clear C0 C1 C2
   generalize wr=W at*
   have hbw:Below w.heap.size w W:=b0.trans (hb.mono b0.size)
   have hBW:=(hb.block _ hz).trans hB
   by_cases hlt:k<s.adv.length
   ·have hlt':(k :Int)<s.adv.length:=by omega
    obtain ⟨b,off,rfl,hbl,e1,e2,e3,e4⟩:=ad_cells (hl2.below hbw) hlt
    have HB:=hid (fun h=>wrong_adv g8 g20 hC.out hlt h)
    have HN:=hid (fun h=>hg.out.next h)
    have hb1:=hb.alloc hb.size (aob (s.adv.getD k zA))
    have hB1:=(Below.heap_alloc W (aob (s.adv.getD k zA)) _ (lt_of_block hBW)).trans hBW
    have hA:(W.alloc (aob (s.adv.getD k zA))).heap[W.heap.size]?=some (aob (s.adv.getD k zA)):=heap_alloc_at _ _ _ rfl
    unfold aob at hb1 hA hB1
    clear hg hBW hb hbw
    generalize s.adv.getD k zA=t at*
    go_upto_region 8 with fail
    generalize W.alloc (.cells #[.int .i64 t.c,.int .i64 t.s,.int .i64 t.m,.int .i64 t.t] 123)=W1 at*
    obtain ⟨A0,A1,A2,A3⟩:=aob_cells hA
    obtain ⟨C0,C1,C2⟩:=dob_cells hB1
    clear e1 e2 e3 e4
    by_cases hf:Fits t s.used.length
    ·have HF:=hid (fitsB_true hf)
     have HN1:=hid (HN.out hf)
     clear hf HB HN
     go_wp2_with (go_at_call 66;refine (isAdvice_any t _ _).mono ?_;rw[HF.out];rintro e w' ⟨rfl,hb2⟩)
     go_roundw
     case rel=>exact ⟨k+1,by omega,by go_num,HN1,hb1.trans (hb2.mono hb1.size)⟩
     case measure=>simp[intOf];omega
    ·have HF:=hid (fitsB_false hf)
     have HG:=hid (HB.out hf)
     clear hf HB HN
     go_wp2_with (go_at_call 66;refine (isAdvice_any t _ _).mono ?_;rw[HF.out];rintro e w' ⟨rfl,hb2⟩)
     go_ret
     have hb3:=hb1.trans (hb2.mono hb1.size)
     exact ⟨ret_int HG.out.symm,b0.trans (hb3.mono b0.size)⟩
   ·have hke:k=s.adv.length:=by omega
    subst hke
    obtain ⟨C0,C1,C2⟩:=dob_cells hBW
    go_wp2_with fail
    refine (given_any s _ _ _ (hh1.below hbw) (hh2.below hbw) g8 g20 hg.out).mono ?_
    rintro e w3 ⟨S,rfl,hS,hI,hb3⟩
    have hb4:=hb.trans (hb3.mono hb.size)
    have hB4:=(hb3.block _ (lt_of_block hBW)).trans hBW
    have bw4:=hbw.trans (hb3.mono hbw.size)
    clear C0 C1 C2 hBW hb hbw hb3
    obtain ⟨C0,C1,C2⟩:=dob_cells hB4
    go_wp2
    go_loopw[38](fun i wr=>∃j:Nat,j≤s.used.length∧i=.int .i64 j∧Hid (GoodU s j)∧wr=w3) (fun i _=>s.used.length-(intOf i).toNat)
    case atStart=>exact ⟨0,Nat.zero_le _,rfl,goodU_zero s,rfl⟩
    case round=>
     obtain ⟨j,hj,rfl,hu,rfl⟩:=hrel
     generalize wr=W at*
     by_cases hlt:j<s.used.length
     ·have hlt':(j:Int)<s.used.length:=by omega
      obtain ⟨b,off,rfl,hbl,e1⟩:=int_cell (hl1.below bw4) hlt
      have I0:=hI.cell (i:=j) (by rw[sums_length];exact hlt)
      rw[sums_getD _ _ hlt] at I0
      have HB:=hid (fun h=>wrong_fit g8 g20 hC.out hg.out hlt h)
      have HN:=hid (fun h=>hu.out.next (k:=j) h)
      unfold Fit at HB HN
      generalize s.used.getD j 0=x at*
      generalize sumOf (j :Int) s.adv=y at*
      by_cases hxy:x=y
      ·subst hxy
       by_cases hcap:x≤s.cap
       ·have HN1:=hid (HN.out ⟨rfl,hcap⟩)
        clear HB HN
        go_wp2
        go_roundw
        case rel=>exact ⟨j+1,by omega,by go_num,HN1,trivial⟩
        case measure=>simp[intOf];omega
       ·have HG:=hid (HB.out (fun h=>hcap h.2))
        have hcap':s.cap<x:=by omega
        clear HB HN hcap
        go_wp2
        go_ret
        exact ⟨ret_int HG.out.symm,bw4⟩
      ·have HG:=hid (HB.out (fun h=>hxy h.1))
       have hne:(x !=y)=true:=by simpa using hxy
       clear HB HN hxy
       go_wp2
       go_ret
       exact ⟨ret_int HG.out.symm,bw4⟩
     ·have hje:j=s.used.length:=by omega
      subst hje
      have HG:=hid (wrong_none g8 g20 hC.out hg.out hu.out)
      go_wp2
      go_ret
      exact ⟨ret_int HG.out.symm,bw4⟩
end Go.Proofs.YtofcnebekmjdoaaGreatDoor.St
