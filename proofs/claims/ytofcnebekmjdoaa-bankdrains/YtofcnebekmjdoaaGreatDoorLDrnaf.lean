import Derived.Test.YtofcnebekmjdoaaGreatDoorLDrnae
set_option maxHeartbeats 4000000
set_option maxRecDepth 100000
namespace Go.Proofs.YtofcnebekmjdoaaGreatDoor.Bn
open Go.RowKit Go.Proofs.YtofcnebekmjdoaaGreatDoor.Gn Go.Maps
theorem dr_len:drainL.length=84:=by kernel_rfl
theorem dr_lose (i j:Nat) (hi:i<2) (hj:j<12):drainL.take (12 *i+(j +1))=drainL.take (12 *i+j)++[⟨0,7,i,0,0,0⟩]:=by
 have: drainL.getD (12*i+j) zD=⟨0,7,i,0,0,0⟩:=by
  obtain rfl|rfl:i=0∨i=1:=by omega
  all_goals obtain rfl|rfl|rfl|rfl|rfl|rfl|rfl|rfl|rfl|rfl|rfl|rfl:j=0∨j=1∨j=2∨j=3∨j=4∨j=5∨j=6∨j=7∨j=8∨j=9∨j=10∨j=11:=by omega
  all_goals kernel_rfl
 rw[←this]
 exact take_snoc (i:=12*i+j) _ (by rw[dr_len];omega)
theorem dr_two (i:Nat) (hi:i<2):drainL.take (24 +30*i+2)=drainL.take (24 +30*i)++[⟨0,5,0,0,0,0⟩,⟨0,5,1,0,0,0⟩]:=by
 obtain rfl|rfl:i=0∨i=1:=by omega
 all_goals kernel_rfl
theorem dr_one (i j k:Nat) (hi:i<2) (hj:j<2) (hk:k<14):drainL.take (24+30*i+2+14*j+(k+1))=drainL.take (24+30*i+2+14*j+k)++[⟨0,6,j,0,0,0⟩]:=by
 have: drainL.getD (24 +30*i+2+14*j+k) zD=⟨0,6,j,0,0,0⟩:=by
  obtain rfl|rfl:i=0∨i=1:=by omega
  all_goals obtain rfl|rfl:j=0∨j=1:=by omega
  all_goals obtain rfl|rfl|rfl|rfl|rfl|rfl|rfl|rfl|rfl|rfl|rfl|rfl|rfl|rfl:k=0∨k=1∨k=2∨k=3∨k=4∨k=5∨k=6∨k=7∨k=8∨k=9∨k=10∨k=11∨k=12∨k=13:=by omega
  all_goals kernel_rfl
 rw[←this]
 exact take_snoc (i:=24+30*i+2+14*j+k) _ (by rw[dr_len];omega)
theorem drn_facts {ps:List Pa}{shops cap:Int}{l:List Dd}(h40:l.length≤40) (h:(playR ps shops cap (l ++drainL)).2.2.1=0):
  ∃b0,Inv b0∧(∀ i,i≤(l++drainL).length→playR ps shops cap ((l++drainL).take i)=((playL b0 ((l++drainL).take i)).1,(playL b0 ((l ++drainL).take i)).2.map (·.2),(0,0)))∧
   ((∀ i,((playL b0 l).1.way i).length≤12)→(∀i,((playL b0 l).1.snd i).kept.length≤12)→(∀i,((playL b0 (l ++drainL)).1.snd i).kept=[])∧Bk.getE (playL b0 (l++drainL)).1.book 1=0∧
    ∀k,(playL b0 (l++drainL)).1.due.getD k 0=sumOn (captBy k) (playL b0 (l++drainL)).1.auths-paidTo b0 (l ++drainL) k (l ++drainL).length):=by
 obtain ⟨q1,q2,-⟩:=playR_ok h
 refine ⟨startB ps shops.toNat cap,(playR_inv h).1,fun i hi=>?_,fun h1 h2=>drain_facts (playR_inv h).1 h40 h1 h2⟩
 unfold playR
 rw[if_neg (by simpa using q1),if_neg (by rw[List.length_take];omega)]
theorem drn_fit{l:List Dd}(h:∀d∈l,FitD d):∀d∈l++drainL,FitD d:=by
 intro d hd
 rcases List.mem_append.1 hd with q|q
 ·exact h d q
 ·unfold drainL roundL at q
  simp only[List.mem_append,List.mem_cons,List.mem_replicate,List.not_mem_nil,or_false] at q
  rcases q with ((⟨-,rfl⟩|⟨-,rfl⟩)|(((rfl|rfl)|⟨-,rfl⟩)|⟨-,rfl⟩))|(((rfl|rfl)|⟨-,rfl⟩)|⟨-,rfl⟩)<;>exact ⟨by decide,by decide⟩
theorem capt_take {l:List Au.Au}{i:Nat} (hi:i<l.length) (j:Nat):sumOn (captBy j) (l.take (i+1))=sumOn (captBy j) (l.take i)+captBy j (l.getD i zA):=by
 rw [take_au hi,sumOn_append,sumOn_one]
theorem capt_small {l:List Au.Au} (h:∀a∈l,Au.Rng a) (j:Nat):∀i,i≤l.length→-(1000000 *(i :Int))≤sumOn (captBy j) (l.take i)∧sumOn (captBy j) (l.take i)≤1000000*(i :Int):=by
 intro i
 induction i with
 |zero=>intro _;show _≤(0 :Int)∧(0:Int)≤_;omega
 |succ i ih=>
  intro hi
  have h1:=ih (by omega)
  rw [capt_take (by omega)]
  generalize sumOn (captBy j) (l.take i)=X at*
  have h2:=h _ (getD_mem' zA (show i<l.length by omega))
  unfold Au.Rng at h2
  unfold captBy
  split<;>omega
structure Du (b:Bank) (n k:Nat) (H:List Int):Prop where
 len:H.length=n
 at':∀j,j<n→H.getD j 0=sumOn (captBy j) (b.auths.take k)
theorem du_start (b:Bank) (n:Nat):Du b n 0 (List.replicate n 0):=⟨by simp,fun j hj=>by simp [List.getD,hj,sumOn]⟩
theorem Du.next {b:Bank}{n k:Nat}{H:List Int}(h:Du b n k H) (hk:k<b.auths.length){c:Nat}(hc:c<n) (hq:(b.auths.getD k zA).shop=c):Du b n (k +1) (H.set c (H.getD c 0+(b.auths.getD k zA).cap-(b.auths.getD k zA).ref)):=by
 refine ⟨by simp[h.len],fun j hj=>?_⟩
 rw[capt_take hk]
 unfold captBy
 by_cases e:j=c
 ·subst e
  rw[if_pos hq]
  have q:=h.at' j hj
  unfold captBy at q
  rw[←q]
  have :j<H.length:=by rw[h.len];exact hj
  simp[List.getD,this]
  omega
 ·rw[if_neg (by rw[hq];omega),Int.add_zero]
  have q:=h.at' j hj
  unfold captBy at q
  rw[←q]
  simp[List.getD,Ne.symm e]
def PlaysA (w:World) (r:Bank×List An×(Int ×Int)) (e:Ending) (w':World):Prop:=∃v cs ds va,e=.returned (.tuple #[bkv r.1 v,va,Dy.fv r.2.2])∧Shows w' r.1 v cs ds∧Ap kAn (fl w.heap.size) w' va r.2.1 0∧Below w.heap.size w w'
theorem play_fresh (ps:List Pa) (a:Option Addr) (c:Nat) (shops cap:Int) (al:Option Addr) (cl:Nat) (l:List Dd) (w:World) (hl:Gn.Lies kPa w a c ps) (hd:Gn.Lies kDd w al cl l) (hfit:∀d∈l,FitD d) (O:Oth w):
  Calls Tryz.prog 18 #[suv (.slice a ps.length c) shops cap,.slice al l.length cl] w (PlaysA w (playR ps shops cap l)):=
 (play_new ps a c shops cap al cl l w hl hd hfit O).mono fun _ _ ⟨v,cs,ds,va,h1,h2,h3,h4⟩=>⟨v,cs,ds,va,h1,h2.shows,h3,h4⟩
theorem fl_zero {n k:Nat} (h:fl n k=0):k=0∨n≤k:=by
 unfold fl at h
 split at h
 ·assumption
 ·cases h
theorem cell_kept {w w':World} {z:Nat}(h:w'.heap[z]?=w.heap[z]?) (p:Nat):w'.cell? ⟨z,p,none⟩=w.cell? ⟨z,p,none⟩:=World.cell?_of_block (w:=w) (a:=⟨z,p,none⟩) h
theorem owns_h' {w w':World}{m n:Nat}{D:DataW Unit}(h:OwnsH w m n D) (hk:w'.heap[m]?=w.heap[m]?):OwnsH w' m n D:=by
 obtain ⟨es,clock,hb,r⟩:=h
 exact ⟨es,clock,hk.trans hb,r⟩
theorem owns_lt' {w:World}{m n:Nat}{D:DataW Unit}(h:OwnsH w m n D):m<w.heap.size:=by
 obtain ⟨es,clock,hb,-⟩:=h
 exact lt_of_block hb
structure Dp (b b0:Bank) (L:List Dd) (n k:Nat) (H:List Int):Prop where
 len:H.length=n
 at':∀j,j<n→H.getD j 0=sumOn (captBy j) b.auths-paidTo b0 L j k
theorem Dp.same {b b0:Bank}{L:List Dd}{n k:Nat}{H:List Int} (h:Dp b b0 L n k H) (hp:∀j,paidTo b0 L j (k +1)=paidTo b0 L j k):Dp b b0 L n (k+1) H:=⟨h.len,fun j hj=>by rw [hp j];exact h.at' j hj⟩
theorem Dp.paid {b b0:Bank} {L:List Dd} {n k:Nat} {H:List Int}(h:Dp b b0 L n k H) {c:Nat} {x:Int}(hp:∀j,paidTo b0 L j (k +1)=paidTo b0 L j k+if j=c then x else 0):Dp b b0 L n (k+1) (H.set c (H.getD c 0-x)):=by
 refine ⟨by simp[h.len],fun j hj=>?_⟩
 have q:=h.at' j hj
 rw[hp j]
 by_cases e:j=c
 ·subst e
  have hl:j<H.length:=by rw[h.len];exact hj
  have e1:(H.set j (H.getD j 0-x)).getD j 0=H.getD j 0-x:=by simp[List.getD,hl]
  rw[e1,if_pos rfl,q]
  omega
 ·have e1:(H.set c (H.getD c 0-x)).getD j 0=H.getD j 0:=by simp[List.getD,Ne.symm e]
  rw[e1,if_neg e,q]
  omega
theorem dp_start {b b0:Bank}{L:List Dd}{n:Nat}{H:List Int} (h:Du b n b.auths.length H):Dp b b0 L n 0 H:=⟨h.len,fun j hj=>by rw [h.at' j hj,List.take_length];show _=_-(0 :Int);omega⟩
theorem bool_all {P:Bool→Prop} (h0:P false) (h1:P true):∀i,P i:=fun i=>by cases i<;>assumption
theorem bankDrains_any(ps:List Pa)(a:Option Addr)(c:Nat)(shops cap:Int)(al:Option Addr)(cl:Nat)(l:List Dd)(w:World)(hl:Gn.Lies kPa w a c ps)(hd:Gn.Lies kDd w al cl l)(hfit:∀d∈l,FitD d)(O:Oth w):
  Calls Tryz.prog 8 #[suv (.slice a ps.length c) shops cap,.slice al l.length cl] w fun e w'=>e=.returned (.bool true)∧Below w.heap.size w w':=by
 have hmx:=hd.len
 unfold maxLen at hmx
 have e1:=below_alloc w (suo (.slice a ps.length c) shops cap)
 have hs0:(w.alloc (suo (.slice a ps.length c) shops cap)).heap[w.heap.size]?=some (suo (.slice a ps.length c) shops cap):=heap_alloc_at _ _ _ rfl
 have hA:=alive_any (w.alloc (suo (.slice a ps.length c) shops cap)) (O.keep (e1.block 0 O.lt))
 unfold suo at hs0 e1 hA
 have zw:=lt_of_block hs0
 unfold suv
 go_enter Tryz.func8,Tryz.ntmps8
 go_upto_region 1 with fail
 generalize w.alloc (.cells #[.slice a ps.length c,.int .i64 shops,.int .i64 cap] 24)=W at*
 go_upto_region 2 with fail
 refine hA.mono ?_
 rintro _ w1⟨rfl,hb1⟩
 clear hA
 have hbw:Below w.heap.size w w1:=e1.trans (hb1.mono e1.size)
 have hs1:w1.heap[w.heap.size]?=some (suo (.slice a ps.length c) shops cap):=(hb1.block _ zw).trans hs0
 clear e1 hb1 hs0 zw
 go_upto_region 3 with fail
 by_cases c1:40<(l.length:Int)
 ·go_wp2_with fail
  exact bodyPost_ret (results_tmp Tryz.results8 _ _ _) rfl ⟨rfl,hbw⟩
 have b5:=below_alloc w1 (.cells #[] 74)
 have R0:Row kDd 74 (w1.alloc (.cells #[] 74)) w1.heap.size (.slice (some ⟨w1.heap.size,0,none⟩) 0 0) []:=Row.full (L:=[]) w1.heap.size (Nat.le_refl _) (lies_blk (K:=kDd) (L:=[]) (heap_alloc_at _ _ _ rfl) rfl (by simp[maxLen]) _) (by simp)
 have hd5:=hd.below (hbw.trans (b5.mono hbw.size))
 have hC0:=cg_start R0 b5.size
 have hbX:=hbw.trans (b5.mono hbw.size)
 have hsX:(w1.alloc (.cells #[] 74)).heap[w.heap.size]?=some (suo (.slice a ps.length c) shops cap):=(b5.block _ (lt_of_block hs1)).trans hs1
 go_upto_region 6 with(at_builtin;refine wpList_append elemDd _ rfl _ _ rfl w1.heap.size (.slice (some ⟨w1.heap.size,0,none⟩) 0 0) [] rfl R0 al l.length cl l rfl rfl hd5 (by simp[maxLen];omega) (by simp;omega) b5.size ?_;intro v5 w5 hown hgrow hat hon)
 have C0:=hC0.grow (Below.refl _ _) _ hown hgrow hat
 rw[List.nil_append]at C0
 have hlo:w.heap.size<w1.heap.size:=lt_of_block hs1
 clear hown hgrow hat hon hC0 R0 hd5 b5 hs1
 generalize w1.alloc (.cells #[] 74)=X0 at*
 go_upto_region 7 with fail
 go_loopw[35,5](fun i vo wr=>∃k:Nat,k≤2∧i=.int .i64 k∧Cg X0 wr (.slice (some ⟨w1.heap.size,0,none⟩) 0 0) w1.heap.size vo (l ++drainL.take (12*k)))(fun i _ _=>2-(intOf i).toNat)
 case atStart=>exact⟨0,by omega,rfl,by simpa using C0⟩
 case round=>
  clear C0
  obtain⟨i,hi,rfl,C⟩:=hrel
  by_cases hlt:i<2
  ·have hlt':(i :Int)<2:=by omega
   go_upto_region 10 with fail
   go_loopw[38,5](fun x vo wr=>∃j:Nat,j≤12∧x=.int .i64 j∧Cg X0 wr (.slice (some ⟨w1.heap.size,0,none⟩) 0 0) w1.heap.size vo (l ++drainL.take (12 *i+j)))(fun x _ _=>12-(intOf x).toNat)
   case atStart=>exact⟨0,by omega,rfl,C⟩
   case round=>
    clear C
    obtain⟨j,hj,rfl,C⟩:=hrel
    by_cases hjt:j<12
    ·have hjt':(j :Int)<12:=by omega
     have hlen:(l++drainL.take (12*i+j)).length≤130:=by rw[List.length_append,List.length_take,dr_len];omega
     have h3:=hid (dr_lose i j hlt hjt)
     have e10:=below_alloc wr (.cells #[.int .i64 0,.int .i64 7,.int .i64 i,.int .i64 0,.int .i64 0,.int .i64 0] 74)
     have hone:Gn.Lies kDd (wr.alloc (.cells #[.int .i64 0, .int .i64 7, .int .i64 i, .int .i64 0, .int .i64 0, .int .i64 0] 74)) (some ⟨wr.heap.size, 0, none⟩) 1 [⟨0, 7, i, 0, 0, 0⟩] := lies_blk (K := kDd) (L := [⟨0, 7, i, 0, 0, 0⟩]) (heap_alloc_at _ _ _ rfl) rfl (by simp [maxLen]) _
     have hrow := C.row.below e10
     have hsz := Nat.le_trans C.size e10.size
     go_wp2_with (at_builtin; refine wpList_append elemDd _ rfl _ _ rfl w1.heap.size u5 (l ++ drainL.take (12 * i + j)) rfl hrow _ 1 1 [⟨0, 7, i, 0, 0, 0⟩] rfl rfl hone (by simp [maxLen] at hlen ⊢; omega) (by simp at hlen ⊢; omega) hsz ?_; intro v11 w11 hown hgrow hat hon)
     have C2 := C.grow e10 _ hown hgrow hat
     rw [List.append_assoc, ← h3.out] at C2
     clear hown hgrow hat hon hrow hsz hone e10 C hlen
     go_roundw
     case rel => exact ⟨j + 1, by omega, by go_num, C2⟩
     case measure => simp [intOf]; omega
    ·obtain rfl : j = 12 := by omega
     go_wp2_with fail
     go_roundw
     case rel => exact ⟨i + 1, by omega, by go_num, by rw [show 12 * (i + 1) = 12 * i + 12 by omega]; exact C⟩
     case measure => simp [intOf]; omega
  ·have h2' : (i : Int) = 2 := by omega
   rw [h2']
   obtain rfl : i = 2 := by omega
   clear h2'
   go_upto_region 15 with fail
   go_loopw [47, 5] (fun i vo wr => ∃ k : Nat, k ≤ 2 ∧ i = .int .i64 k ∧ Cg X0 wr (.slice (some ⟨w1.heap.size, 0, none⟩) 0 0) w1.heap.size vo (l ++ drainL.take (24 + 30 * k))) (fun i _ _ => 2 - (intOf i).toNat)
   case atStart => exact ⟨0, by omega, rfl, C⟩
   case round =>
    clear C hlt hi
    obtain ⟨i, hi, rfl, C⟩ := hrel
    by_cases hlt : i < 2
    ·have hlt' : (i : Int) < 2 := by omega
     have hlen : (l ++ drainL.take (24 + 30 * i)).length ≤ 130 := by rw [List.length_append, List.length_take, dr_len]; omega
     have h2 := hid (dr_two i hlt)
     have e10 := below_alloc wr (.cells #[.int .i64 0, .int .i64 5, .int .i64 0, .int .i64 0, .int .i64 0, .int .i64 0, .int .i64 0, .int .i64 5, .int .i64 1, .int .i64 0, .int .i64 0, .int .i64 0] 74)
     have hone : Gn.Lies kDd (wr.alloc (.cells #[.int .i64 0, .int .i64 5, .int .i64 0, .int .i64 0, .int .i64 0, .int .i64 0, .int .i64 0, .int .i64 5, .int .i64 1, .int .i64 0, .int .i64 0, .int .i64 0] 74)) (some ⟨wr.heap.size, 0, none⟩) 2 [⟨0, 5, 0, 0, 0, 0⟩, ⟨0, 5, 1, 0, 0, 0⟩] := lies_blk (K := kDd) (L := [⟨0, 5, 0, 0, 0, 0⟩, ⟨0, 5, 1, 0, 0, 0⟩]) (heap_alloc_at _ _ _ rfl) rfl (by simp [maxLen]) _
     have hrow := C.row.below e10
     have hsz := Nat.le_trans C.size e10.size
     go_upto_region 17 with (at_builtin; refine wpList_append elemDd _ rfl _ _ rfl w1.heap.size u5 (l ++ drainL.take (24 + 30 * i)) rfl hrow _ 2 2 [⟨0, 5, 0, 0, 0, 0⟩, ⟨0, 5, 1, 0, 0, 0⟩] rfl rfl hone (by simp [maxLen] at hlen ⊢; omega) (by simp at hlen ⊢; omega) hsz ?_; intro v11 w11 hown hgrow hat hon)
     have C2 := C.grow e10 _ hown hgrow hat
     rw [List.append_assoc, ← h2.out] at C2
     clear hown hgrow hat hon hrow hsz hone e10 C hlen
     go_upto_region 18 with fail
     go_loopw [54, 5] (fun x vo wr => ∃ j : Nat, j ≤ 2 ∧ x = .int .i64 j ∧ Cg X0 wr (.slice (some ⟨w1.heap.size, 0, none⟩) 0 0) w1.heap.size vo (l ++ drainL.take (24 + 30 * i + 2 + 14 * j))) (fun x _ _ => 2 - (intOf x).toNat)
     case atStart => exact ⟨0, by omega, rfl, C2⟩
     case round =>
      clear C2
      obtain ⟨j, hj, rfl, C⟩ := hrel
      by_cases hjt : j < 2
      ·have hjt' : (j : Int) < 2 := by omega
       go_upto_region 21 with fail
       go_loopw [57, 5] (fun x vo wr => ∃ k : Nat, k ≤ 14 ∧ x = .int .i64 k ∧ Cg X0 wr (.slice (some ⟨w1.heap.size, 0, none⟩) 0 0) w1.heap.size vo (l ++ drainL.take (24 + 30 * i + 2 + 14 * j + k))) (fun x _ _ => 14 - (intOf x).toNat)
       case atStart => exact ⟨0, by omega, rfl, C⟩
       case round =>
        clear C
        obtain ⟨k, hk, rfl, C⟩ := hrel
        by_cases hkt : k < 14
        ·have hkt' : (k : Int) < 14 := by omega
         have hlen : (l ++ drainL.take (24 + 30 * i + 2 + 14 * j + k)).length ≤ 130 := by rw [List.length_append, List.length_take, dr_len]; omega
         have h3 := hid (dr_one i j k hlt hjt hkt)
         have e10 := below_alloc wr (.cells #[.int .i64 0, .int .i64 6, .int .i64 j, .int .i64 0, .int .i64 0, .int .i64 0] 74)
         have hone : Gn.Lies kDd (wr.alloc (.cells #[.int .i64 0, .int .i64 6, .int .i64 j, .int .i64 0, .int .i64 0, .int .i64 0] 74)) (some ⟨wr.heap.size, 0, none⟩) 1 [⟨0, 6, j, 0, 0, 0⟩] := lies_blk (K := kDd) (L := [⟨0, 6, j, 0, 0, 0⟩]) (heap_alloc_at _ _ _ rfl) rfl (by simp [maxLen]) _
         have hrow := C.row.below e10
         have hsz := Nat.le_trans C.size e10.size
         go_wp2_with (at_builtin; refine wpList_append elemDd _ rfl _ _ rfl w1.heap.size u5 (l ++ drainL.take (24 + 30 * i + 2 + 14 * j + k)) rfl hrow _ 1 1 [⟨0, 6, j, 0, 0, 0⟩] rfl rfl hone (by simp [maxLen] at hlen ⊢; omega) (by simp at hlen ⊢; omega) hsz ?_; intro v11 w11 hown hgrow hat hon)
         have C2 := C.grow e10 _ hown hgrow hat
         rw [List.append_assoc, ← h3.out] at C2
         clear hown hgrow hat hon hrow hsz hone e10 C hlen
         go_roundw
         case rel => exact ⟨k + 1, by omega, by go_num, C2⟩
         case measure => simp [intOf]; omega
        ·obtain rfl : k = 14 := by omega
         go_wp2_with fail
         go_roundw
         case rel => exact ⟨j + 1, by omega, by go_num, by rw [show 24 + 30 * i + 2 + 14 * (j + 1) = 24 + 30 * i + 2 + 14 * j + 14 by omega]; exact C⟩
         case measure => simp [intOf]; omega
      ·obtain rfl : j = 2 := by omega
       go_wp2_with fail
       go_roundw
       case rel => exact ⟨i + 1, by omega, by go_num, by rw [show 24 + 30 * (i + 1) = 24 + 30 * i + 2 + 14 * 2 by omega]; exact C⟩
       case measure => simp [intOf]; omega
    ·have h2' : (i : Int) = 2 := by omega
     rw [h2']
     obtain rfl : i = 2 := by omega
     clear h2'
     rw [List.take_of_length_le (by rw [dr_len]; omega)] at C
     have hbwr : Below w.heap.size w wr := hbX.trans (C.bel.mono (Nat.le_of_lt hlo))
     have hlm : Hid ((l ++ drainL).length = l.length + 84) := hid (by rw [List.length_append, dr_len])
     have htk : Hid ((l ++ drainL).take l.length = l) := hid (by simp)
     obtain ⟨am, cm, rfl, lm, hroom⟩ := Dy.Row.atC C.row
     have hfm := drn_fit hfit
     have hQ := fun (W : World) (h : Below w.heap.size w W) (m : List Dd) (cp : Nat) (hf : ∀ d ∈ m, FitD d) (hm : Gn.Lies kDd W am cp m) => play_fresh ps a c shops cap am cp m W (hl.below h) hm hf (O.keep (h.block 0 O.lt))
     have hQ0 := fun (W : World) (h : Below w.heap.size w W) => play_any ps a c shops cap al cl l W (hl.below h) (hd.below h) hfit (O.keep (h.block 0 O.lt))
     have hQN := fun (W : World) (h : Below w.heap.size w W) (m : List Dd) (cp : Nat) (hf : ∀ d ∈ m, FitD d) (hm : Gn.Lies kDd W am cp m) => play_new ps a c shops cap am cp m W (hl.below h) hm hf (O.keep (h.block 0 O.lt))
     unfold suv PlaysA at hQ
     unfold suv PlaysN at hQN
     unfold suv Plays at hQ0
     simp only [bkv_cells] at hQ hQ0 hQN
     unfold Dy.fv at hQ hQ0 hQN
     have hP1 := hQ wr hbwr _ cm hfm lm
     have hF := hid (fun h => drn_facts (ps := ps) (shops := shops) (cap := cap) (l := l) (by omega) h)
     generalize l ++ drainL = mL at *
     have hsr := (C.bel.block _ hlo).trans hsX
     obtain ⟨s0, s1, s2⟩ := sul_cells hsr
     have hR0 := hid (rfl : playR ps shops cap mL = playR ps shops cap mL)
     replace hQ := hid hQ
     replace hQN := hid hQN
     generalize hr1 : playR ps shops cap mL = r at hP1 hF
     obtain ⟨b, A, f⟩ := r
     replace hr1 := hid hr1
     dsimp only at hP1 hF
     clear C hd O hl hR0 hsX hbX
     generalize wr = R at *
     go_upto_region 27 with (first
      | (go_at_call 18; refine hP1.mono ?_; rintro _ w2 ⟨v, cs, ds, va, rfl, SH, AP, hb3⟩; obtain ⟨G1, G2, G3, G4, G5⟩ := got_box w2 #[.int .i64 0, .bool false, .slice none 0 0, .slice none 0 0, .slice none 0 0, .int .i64 0, .slice none 0 0, .int .i64 0, .slice none 0 0, .int .i64 0, .int .i64 0, .slice none 0 0, .slice none 0 0, .int .i64 0, .slice none 0 0, .slice none 0 0, .slice none 0 0, .slice none 0 0, .slice none 0 0] rfl b v f; have BW : Bw w _ w2.heap.size b v cs ds := ⟨G3, SH.below G5, (hbwr.trans (hb3.mono hbwr.size)).trans (G5.mono ((hbwr.trans (hb3.mono hbwr.size)).size))⟩; have hg := G4; have hbZ := hb3.trans (G5.mono hb3.size); have APZ : ∃ aa ca, va = .slice aa A.length ca ∧ Gn.Lies kAn _ aa ca A := (by obtain ⟨aa, ca, h1, h2⟩ := AP.lies; exact ⟨aa, ca, h1, h2.below G5⟩); replace G3 := bko_cells G3; obtain ⟨t0, t1, t2, t3⟩ := fo_cells G2; obtain ⟨y0, y1, y2, y3⟩ := fo_cells G4; have hone := hid SH.one; have hinf : Hid ((Tryz.prog.info? 43).map (·.size) = some (cellsK b v).size) := hid infoK; have hb4 : Below w.heap.size w _ := (hbwr.trans (hb3.mono hbwr.size)).trans (G5.mono ((hbwr.trans (hb3.mono hbwr.size)).size)); dsimp only at t0 t1 y0 y1 G3 hb4; clear G4 G5 SH AP G2 hP1 s0 s1 s2 hbwr; generalize cellsK b v = cc at *)
      | (refine wpList_store_mid rfl 43 _ _ rfl w2.heap.size 0 cc rfl rfl G1 hinf.out hone.out ?_))
     generalize ((((w2.alloc (.cells #[.int .i64 0, .bool false, .slice none 0 0, .slice none 0 0, .slice none 0 0, .int .i64 0, .slice none 0 0, .int .i64 0, .slice none 0 0, .int .i64 0, .int .i64 0, .slice none 0 0, .slice none 0 0, .int .i64 0, .slice none 0 0, .slice none 0 0, .slice none 0 0, .slice none 0 0, .slice none 0 0] 43)).alloc (.cells #[.int .i64 0, .int .i64 0] 47)).setCells w2.heap.size 0 cc.toList).setCell ⟨w2.heap.size + 1, 0, none⟩ (.int .i64 f.1)).setCell ⟨w2.heap.size + 1, 1, none⟩ (.int .i64 f.2) = Z at *
     clear G1 t0 t1 t2 t3 hb3 hone hinf y1 y2 y3 G3 hb4 APZ
     by_cases hf : f.1 = 0
     case neg =>
      have hbf := BW.bel
      have hne : (f.1 != 0) = true := by simpa using hf
      clear hF BW
      go_wp2_with fail
      exact bodyPost_ret (results_tmp Tryz.results8 _ _ _) rfl ⟨rfl, hbf⟩
     case pos =>
      obtain ⟨b0, I0, hpre, hdr⟩ := hF.out hf
      have hbe := hpre mL.length (Nat.le_refl _)
      rw [List.take_length, hr1.out] at hbe
      injection hbe with hbe hbf
      injection hbf with hAe hfe
      subst hfe
      have hx := hpre l.length (by rw [hlm.out]; omega)
      rw [htk.out] at hx
      have hP2 := hQ0 Z BW.bel
      rw [hx] at hP2
      have hsZ := (hbZ.block _ (lt_of_block hsr)).trans hsr
      obtain ⟨s0, s1, s2⟩ := sul_cells hsZ
      have hbw2 := BW.bel
      have lmZ := lm.below hbZ
      rw [← hbe] at hdr
      replace hbe := hid hbe
      replace hAe := hid hAe
      replace hdr := hid hdr
      replace hpre := hid hpre
      replace hx := hid hx
      dsimp only at hP2
      generalize hbx : (playL b0 l).1 = bx at hP2
      rw [hbx] at hdr
      clear hbx
      generalize (playL b0 l).2.map (·.2) = Ax at hP2
      clear hF hQ0 hf
      dsimp only at y0
      go_upto_region 30 with (first
       | (go_at_call 18; refine hP2.mono ?_; rintro _ w3 ⟨v2, cs2, ds2, va2, rfl, SH, AP, hb3⟩; obtain ⟨E1, E2, E3, E4, E5⟩ := got_box w3 #[.int .i64 0, .bool false, .slice none 0 0, .slice none 0 0, .slice none 0 0, .int .i64 0, .slice none 0 0, .int .i64 0, .slice none 0 0, .int .i64 0, .int .i64 0, .slice none 0 0, .slice none 0 0, .int .i64 0, .slice none 0 0, .slice none 0 0, .slice none 0 0, .slice none 0 0, .slice none 0 0] rfl bx v2 (0, 0); have BW2 : Bw w _ w3.heap.size bx v2 cs2 ds2 := ⟨E3, SH.below E5, (hbw2.trans (hb3.mono hbw2.size)).trans (E5.mono ((hbw2.trans (hb3.mono hbw2.size)).size))⟩; have hbZ2 := hb3.trans (E5.mono hb3.size); replace E3 := bko_cells E3; obtain ⟨t0, t1, t2, t3⟩ := fo_cells E2; obtain ⟨y0, y1, y2, y3⟩ := fo_cells E4; have hone := hid SH.one; have hinf : Hid ((Tryz.prog.info? 43).map (·.size) = some (cellsK bx v2).size) := hid infoK; have hb5 : Below w.heap.size w _ := (hbw2.trans (hb3.mono hbw2.size)).trans (E5.mono ((hbw2.trans (hb3.mono hbw2.size)).size)); dsimp only at t0 t1 y0 y1 E3 hb5; clear E4 E5 SH AP E2 hP2 s0 s1 s2 hbw2; generalize cellsK bx v2 = cc2 at *)
       | (refine wpList_store_mid rfl 43 _ _ rfl w3.heap.size 0 cc2 rfl rfl E1 hinf.out hone.out ?_))
      generalize ((((w3.alloc (.cells #[.int .i64 0, .bool false, .slice none 0 0, .slice none 0 0, .slice none 0 0, .int .i64 0, .slice none 0 0, .int .i64 0, .slice none 0 0, .int .i64 0, .int .i64 0, .slice none 0 0, .slice none 0 0, .int .i64 0, .slice none 0 0, .slice none 0 0, .slice none 0 0, .slice none 0 0, .slice none 0 0] 43)).alloc (.cells #[.int .i64 0, .int .i64 0] 47)).setCells w3.heap.size 0 cc2.toList).setCell ⟨w3.heap.size + 1, 0, none⟩ (.int .i64 0)).setCell ⟨w3.heap.size + 1, 1, none⟩ (.int .i64 0) = Z2 at *
      have BV := BW.below hbZ2
      have lmV := lmZ.below hbZ2
      have hsV := (hbZ2.block _ (lt_of_block hsZ)).trans hsZ
      obtain ⟨f6, k6, r6, -⟩ := (BW2.sh.kept false).lies
      obtain ⟨f8, k8, r8, -⟩ := (BW2.sh.kept true).lies
      obtain ⟨f11, k11, r11, -⟩ := (BW2.sh.ways false).lies
      obtain ⟨f12, k12, r12, -⟩ := (BW2.sh.ways true).lies
      obtain ⟨-, -, -, -, -, -, X6, -, X8, -, -, X11, X12, -⟩ := bko_cells BW2.box
      rw [r6] at X6
      rw [r8] at X8
      rw [r11] at X11
      rw [r12] at X12
      have hbf := BV.bel
      clear E1 t0 t1 t2 t3 hb3 hone hinf y0 y1 y2 y3 E3 hb5 BW2 BW lmZ hsZ r6 r8 r11 r12
      by_cases u0 : 12 < ((bx.snd false).kept.length : Int)
      ·go_wp2_with fail
       exact bodyPost_ret (results_tmp Tryz.results8 _ _ _) rfl ⟨rfl, hbf⟩
      by_cases u1 : 12 < ((bx.snd true).kept.length : Int)
      ·go_wp2_with fail
       exact bodyPost_ret (results_tmp Tryz.results8 _ _ _) rfl ⟨rfl, hbf⟩
      by_cases u2 : 12 < ((bx.way false).length : Int)
      ·go_wp2_with fail
       exact bodyPost_ret (results_tmp Tryz.results8 _ _ _) rfl ⟨rfl, hbf⟩
      by_cases u3 : 12 < ((bx.way true).length : Int)
      ·go_wp2_with fail
       exact bodyPost_ret (results_tmp Tryz.results8 _ _ _) rfl ⟨rfl, hbf⟩
      obtain ⟨D1, D2, D3⟩ := hdr.out (bool_all (P := fun i => (bx.way i).length ≤ 12) (by omega) (by omega)) (bool_all (P := fun i => (bx.snd i).kept.length ≤ 12) (by omega) (by omega))
      go_upto_region 32 with fail
      clear u0 u1 u2 u3 X6 X8 X11 X12 hdr
      obtain ⟨f6, k6, r6, -⟩ := (BV.sh.kept false).lies
      obtain ⟨f8, k8, r8, -⟩ := (BV.sh.kept true).lies
      obtain ⟨f18, k18, r18, lb⟩ := BV.sh.book.lies
      obtain ⟨f3, k3, r3, -⟩ := BV.sh.due.lies
      obtain ⟨f4, k4, r4, -⟩ := BV.sh.auths.lies
      rw [D1 false, List.length_nil] at r6
      rw [D1 true, List.length_nil] at r8
      obtain ⟨-, -, -, X3, X4, -, X6, -, X8, -, -, -, -, -, -, -, -, -, X18⟩ := bko_cells BV.box
      rw [r6] at X6
      rw [r8] at X8
      rw [r18] at X18
      rw [r3] at X3
      rw [r4] at X4
      replace r3 := hid r3
      replace r4 := hid r4
      replace D3 := hid D3
      have hG := Bk.get_any f18 k18 b.book 1 Z2 (lies_ents lb)
      rw [D2] at hG
      clear D1 D2 r6 r8 r18 lb
      go_upto_region 34 with (go_at_call 25; refine hG.mono ?_; rintro _ Z3 ⟨rfl, hb6⟩)
      have BU := BV.below hb6
      have lmU := lmV.below hb6
      have hsU := (hb6.block _ (lt_of_block hsV)).trans hsV
      have Y3 := (hb6.cell (cell_lt X3)).trans X3
      have Y4 := (hb6.cell (cell_lt X4)).trans X4
      have I := hid (show Inv b by rw [hbe.out]; exact play_inv I0 mL)
      have hd8 : b.due.length ≤ 8 := I.out.held.due8
      have ha30 : b.auths.length ≤ 30 := by have := I.out.held.few; omega
      have hau := fun (k : Nat) (hk : k < b.auths.length) => I.out.held.auths _ (getD_mem' zA hk)
      have hcs := hid (fun (j : Nat) => capt_small (fun x hx => (I.out.held.auths x hx).1) j)
      have hmk := St.make_ints b.due.length (by omega)
      have hI0 := ints_made Z3 3 b.due.length
      have hZ0 := below_alloc Z3 (.cells (madeCells #[.int .i64 0] b.due.length) 3)
      have Y4' := (hZ0.cell (cell_lt Y4)).trans Y4
      clear hG X3 X4 X6 X8 X18 BV lmV hsV hb6 hbf
      go_upto_region 36 with fail
      generalize Z3.alloc (.cells (madeCells #[.int .i64 0] b.due.length) 3) = Z4 at *
      clear Y3 Y4 Y4' hmk
      go_loopw [137] (fun i wr => ∃ (k : Nat) (H : List Int), k ≤ b.auths.length ∧ i = .int .i64 k ∧ Below Z3.heap.size Z3 wr ∧ Ints wr 3 Z3.heap.size H ∧ Hid (Du b b.due.length k H)) (fun i _ => b.auths.length - (intOf i).toNat)
      case atStart => exact ⟨0, _, Nat.zero_le _, rfl, hZ0, hI0, hid (du_start b b.due.length)⟩
      case round =>
       clear hI0 hZ0
       obtain ⟨k, H, hk, rfl, hbr, hI, hH⟩ := hrel
       have BR := BU.below hbr
       by_cases hlt : k < b.auths.length
       ·have hlt' : (k : Int) < b.auths.length := by omega
        obtain ⟨a5, c5, e5, l5⟩ := BR.sh.auths.lies
        rw [r4.out] at e5
        injection e5 with q1 _ q2
        subst q1 q2
        obtain ⟨z, off, rfl, zlt, f0, f1, f2, f3, f4, f5, f6, f7⟩ := auth_cells l5 hlt
        obtain ⟨r1, -, -, r5⟩ := hau k hlt
        have hc0 : 0 ≤ (b.auths.getD k zA).shop := by have := r1; unfold Au.Rng at this; omega
        obtain ⟨cn, hcn⟩ : ∃ cn : Nat, (b.auths.getD k zA).shop = cn := ⟨(b.auths.getD k zA).shop.toNat, by omega⟩
        have hcn' : cn < b.due.length := by omega
        have hcn2 : (cn : Int) < b.due.length := by omega
        have hN := hid (hH.out.next hlt hcn' hcn)
        have hHc := hH.out.at' cn hcn'
        have hsm := hcs.out cn k hk
        have hlen := hH.out.len
        have hx1 := hI.cell (i := cn) (by rw [hlen]; exact hcn')
        have hx2 := hI.free cn
        have hxlt := hI.lt
        rw [← hHc] at hsm
        generalize H.getD cn 0 = hv at *
        generalize hga : b.auths.getD k zA = x at *
        obtain ⟨x1, x2, x3, x4, x5, x6, x7, x8⟩ := x
        dsimp only at hcn hc0 r1 r5 f0 f1 f2 f3 f4 f5 f6 f7 hN
        unfold Au.Rng at r1
        dsimp only at r1
        subst hcn
        have hb5 := below_alloc wr (.cells #[.int .i64 x1, .int .i64 (cn : Int), .int .i64 x3, .int .i64 x4, .int .i64 x5, .int .i64 x6, .int .i64 x7, .bool x8] 66)
        have hP5 : (wr.alloc (.cells #[.int .i64 x1, .int .i64 (cn : Int), .int .i64 x3, .int .i64 x4, .int .i64 x5, .int .i64 x6, .int .i64 x7, .bool x8] 66)).heap[wr.heap.size]? = some (.cells #[.int .i64 x1, .int .i64 (cn : Int), .int .i64 x3, .int .i64 x4, .int .i64 x5, .int .i64 x6, .int .i64 x7, .bool x8] 66) := heap_alloc_at _ _ _ rfl
        clear hH hHc hlen hga hc0
        go_upto_region 38 with fail
        have hbn := hbr.trans (hb5.mono hbr.size)
        have hzne : wr.heap.size ≠ Z3.heap.size := by omega
        generalize wr.alloc (.cells #[.int .i64 x1, .int .i64 (cn : Int), .int .i64 x3, .int .i64 x4, .int .i64 x5, .int .i64 x6, .int .i64 x7, .bool x8] 66) = Y at *
        have eD : Below Y.heap.size Y Y.drew := (Below.refl _ _).drew
        have hPD := (eD.block _ (lt_of_block hP5)).trans hP5
        have hID := (hI.below hb5).below eD
        have hx1D := (eD.cell (Nat.lt_of_lt_of_le hxlt hb5.size)).trans ((hb5.cell hxlt).trans hx1)
        have hx2D := hID.free cn
        have hbD := hbn.trans (eD.mono hbn.size)
        have hpD := pero_cells hPD
        have hwp1 : IntKind.i64.wrap (hv + x4) = hv + x4 := wrap64' (by omega) (by omega)
        have hwp2 : IntKind.i64.wrap (hv + x4 - x5) = hv + x4 - x5 := wrap64' (by omega) (by omega)
        clear f0 f1 f2 f3 f4 f5 f6 f7 l5 BR hP5 hb5 hI hx1 hx2 hbn eD hbr zlt
        refine wp_region_held_drew (S := (fun X => X.cell? ⟨wr.heap.size, 0, none⟩ = some (.int .i64 x1) ∧ X.cell? ⟨wr.heap.size, 1, none⟩ = some (.int .i64 (cn : Int)) ∧ X.cell? ⟨wr.heap.size, 2, none⟩ = some (.int .i64 x3) ∧ X.cell? ⟨wr.heap.size, 3, none⟩ = some (.int .i64 x4) ∧ X.cell? ⟨wr.heap.size, 4, none⟩ = some (.int .i64 x5) ∧ X.cell? ⟨wr.heap.size, 5, none⟩ = some (.int .i64 x6) ∧ X.cell? ⟨wr.heap.size, 6, none⟩ = some (.int .i64 x7) ∧ X.cell? ⟨wr.heap.size, 7, none⟩ = some (.bool x8))) (by kernel_rfl) (hpD) (fun hS => ?_)
        generalize Y.drew = Yd at *
        refine tk 0 (.slice (some ⟨Z3.heap.size, 0, none⟩) b.due.length b.due.length) hS ?_ ?_
        ·intro w' _; go_simp
        refine tk 1 (.pointer (some ⟨wr.heap.size, 1, none⟩)) hS ?_ ?_
        ·intro w' _; go_simp
        refine tk 2 (.int .i64 (cn : Int)) hS ?_ ?_
        ·intro w' hS'; obtain ⟨e0, e1, e2, e3, e4, e5, e6, e7⟩ := hS'; go_simp
        refine tk 3 (.slice (some ⟨Z3.heap.size, 0, none⟩) b.due.length b.due.length) hS ?_ ?_
        ·intro w' _; go_simp
        try simp only [List.getElem_toArray, List.getElem_cons_zero, List.getElem_cons_succ, Act.put, List.setIfInBounds_toArray, List.set_cons_zero, List.set_cons_succ]
        refine tk 4 (.pointer (some ⟨wr.heap.size, 1, none⟩)) hS ?_ ?_
        ·intro w' _; go_simp
        refine tk 5 (.int .i64 (cn : Int)) hS ?_ ?_
        ·intro w' hS'; obtain ⟨e0, e1, e2, e3, e4, e5, e6, e7⟩ := hS'; go_simp
        refine tk 6 (.pointer (some ⟨Z3.heap.size, cn, none⟩)) hS ?_ ?_
        ·intro w' _; go_simp
        refine tk 8 (.pointer (some ⟨wr.heap.size, 3, none⟩)) hS ?_ ?_
        ·intro w' _; go_simp
        try simp only [List.getElem_toArray, List.getElem_cons_zero, List.getElem_cons_succ, Act.put, List.setIfInBounds_toArray, List.set_cons_zero, List.set_cons_succ]
        refine tk 9 (.int .i64 x4) hS ?_ ?_
        ·intro w' hS'; obtain ⟨e0, e1, e2, e3, e4, e5, e6, e7⟩ := hS'; go_simp
        refine tk 11 (.pointer (some ⟨wr.heap.size, 4, none⟩)) hS ?_ ?_
        ·intro w' _; go_simp
        refine tk 12 (.int .i64 x5) hS ?_ ?_
        ·intro w' hS'; obtain ⟨e0, e1, e2, e3, e4, e5, e6, e7⟩ := hS'; go_simp
        try simp only [List.getElem_toArray, List.getElem_cons_zero, List.getElem_cons_succ, Act.put, List.setIfInBounds_toArray, List.set_cons_zero, List.set_cons_succ]
        try simp only [List.getElem_toArray, List.getElem_cons_zero, List.getElem_cons_succ, Act.put, List.setIfInBounds_toArray, List.set_cons_zero, List.set_cons_succ]
        refine rd 7 (.cons rfl (fun K hK => ?_) .nil)
        go_simp
        refine hK.out _ _ (hpD) (fun hS => ?_)
        clear hK K
        refine tk 10 (.int .i64 (hv + x4)) hS ?_ ?_
        ·intro w' _; go_simp
        refine tk 13 (.int .i64 (hv + x4 - x5)) hS ?_ ?_
        ·intro w' _; go_simp
        refine tk 14 (.pointer (some ⟨Z3.heap.size, cn, none⟩)) hS ?_ ?_
        ·intro w' _; go_simp
        try simp only [List.getElem_toArray, List.getElem_cons_zero, List.getElem_cons_succ, Act.put, List.setIfInBounds_toArray, List.set_cons_zero, List.set_cons_succ]
        refine rd 15 (.cons rfl (fun K hK => ?_) .nil)
        go_simp
        refine hK.out _ _ (pero_cells ((heap_setCell_other Yd ⟨Z3.heap.size, cn, none⟩ wr.heap.size _ hzne).trans hPD)) (fun hS => ?_)
        clear hK K
        try simp only [List.getElem_toArray, List.getElem_cons_zero, List.getElem_cons_succ, Act.put, List.setIfInBounds_toArray, List.set_cons_zero, List.set_cons_succ]
        refine wpAnyH_done (by kernel_rfl) ?_ _
        go_wp2_with fail
        go_roundw
        case rel => exact ⟨k + 1, _, by omega, by go_num, hbD.setCell (p := ⟨Z3.heap.size, cn, none⟩) (Nat.le_refl _) _, hID.set cn _, hN⟩
        case measure => simp [intOf]; omega
       ·obtain rfl : k = b.auths.length := by omega
        have hge : ¬ ((b.auths.length : Int) < b.auths.length) := by omega
        have hDp := hid (dp_start (b0 := b0) (L := mL) hH.out)
        have hbw3 := BR.bel
        have hsR := (hbr.block _ (lt_of_block hsU)).trans hsU
        obtain ⟨s0, s1, s2⟩ := sul_cells hsR
        have hP3 := hQ.out wr hbw3 mL cm hfm (lmU.below hbr)
        rw [hr1.out] at hP3
        dsimp only at hP3
        have hz3 := hI.lt
        clear hH hau hcs hge hlt hk
        generalize wr = R2 at *
        go_upto_region 41 with (first
         | (go_at_call 18; refine hP3.mono ?_; rintro _ w4 ⟨v3, cs3, ds3, va3, rfl, SH, AP, hb3⟩; obtain ⟨F1, F2, F3, F4, F5⟩ := got_box w4 #[.int .i64 0, .bool false, .slice none 0 0, .slice none 0 0, .slice none 0 0, .int .i64 0, .slice none 0 0, .int .i64 0, .slice none 0 0, .int .i64 0, .int .i64 0, .slice none 0 0, .slice none 0 0, .int .i64 0, .slice none 0 0, .slice none 0 0, .slice none 0 0, .slice none 0 0, .slice none 0 0] rfl b v3 (0, 0); have hbZ5 := hb3.trans (F5.mono hb3.size); have APZ : ∃ aa ca, va3 = .slice aa A.length ca ∧ Gn.Lies kAn _ aa ca A ∧ ∀ ad, aa = some ad → A ≠ [] → ad.block = 0 ∨ R2.heap.size ≤ ad.block := (by obtain ⟨aa, ca, h1, h2, h3⟩ := AP; exact ⟨aa, ca, h1, h2.below F5, fun ad ha hn => fl_zero (h3 ad ha hn)⟩); replace F3 := bko_cells F3; obtain ⟨t0, t1, t2, t3⟩ := fo_cells F2; obtain ⟨y0, y1, y2, y3⟩ := fo_cells F4; have hone := hid SH.one; have hinf : Hid ((Tryz.prog.info? 43).map (·.size) = some (cellsK b v3).size) := hid infoK; have hb7 : Below w.heap.size w _ := (hbw3.trans (hb3.mono hbw3.size)).trans (F5.mono ((hbw3.trans (hb3.mono hbw3.size)).size)); dsimp only at t0 t1 y0 y1 F3 hb7; clear F4 F5 SH AP F2 hP3 s0 s1 s2; generalize cellsK b v3 = cc3 at *)
         | (refine wpList_store_mid rfl 43 _ _ rfl w4.heap.size 0 cc3 rfl rfl F1 hinf.out hone.out ?_))
        generalize ((((w4.alloc (.cells #[.int .i64 0, .bool false, .slice none 0 0, .slice none 0 0, .slice none 0 0, .int .i64 0, .slice none 0 0, .int .i64 0, .slice none 0 0, .int .i64 0, .int .i64 0, .slice none 0 0, .slice none 0 0, .int .i64 0, .slice none 0 0, .slice none 0 0, .slice none 0 0, .slice none 0 0, .slice none 0 0] 43)).alloc (.cells #[.int .i64 0, .int .i64 0] 47)).setCells w4.heap.size 0 cc3.toList).setCell ⟨w4.heap.size + 1, 0, none⟩ (.int .i64 0)).setCell ⟨w4.heap.size + 1, 1, none⟩ (.int .i64 0) = Z5 at *
        obtain ⟨aa, ca, rfl, lA, hAn⟩ := APZ
        have BU5 := BR.below hbZ5
        have hsU5 := (hbZ5.block _ (lt_of_block hsR)).trans hsR
        have lm5 := (lmU.below hbr).below hbZ5
        have hI5 := hI.below hbZ5
        have hbr5 := hbr.trans (hbZ5.mono hbr.size)
        have hAl : A.length = mL.length := by rw [hAe.out, List.length_map, log_len]
        have hAt : Hid (∀ k, A.getD k (0, 0) = ans b0 mL k) := hid fun k => by rw [hAe.out]; rfl
        clear F1 t0 t1 t2 t3 hb3 hone hinf y0 y1 y2 y3 F3 hb7 hsR hI BR hbr
        have hm140 : mL.length ≤ 140 := by rw [hlm.out]; omega
        have hmm := @run_makeMap Tryz.prog
        have O0 := World.ownsMap_made Z5 Tryz.prog 3 rBo
        have eM := below_alloc Z5 (.map #[] 0)
        have hmZ : (Z5.alloc (.map #[] 0)).heap.size = Z5.heap.size + 1 := by simp
        have hz5 : Z3.heap.size < Z5.heap.size := hI5.lt
        replace hAl := hid hAl
        go_upto_region 43 with fail
        generalize Z5.alloc (.map #[] 0) = Z6 at *
        have hK0 : ∀ j, j < Z5.heap.size → j ≠ Z3.heap.size → Z6.heap[j]? = Z5.heap[j]? := fun j hj _ => eM.block j hj
        have hI6 := hI5.below eM
        go_loopw [167] (fun i wr => ∃ (k nn : Nat) (H : List Int) (D : DataW Unit), k ≤ mL.length ∧ i = .int .i64 k ∧ Ints wr 3 Z3.heap.size H ∧ OwnsH wr Z5.heap.size nn D ∧ Hs (ids mL k) D ∧ nn ≤ k ∧ Hid (∀ j, j < Z5.heap.size → j ≠ Z3.heap.size → wr.heap[j]? = Z5.heap[j]?) ∧ Z5.heap.size + 1 ≤ wr.heap.size ∧ Hid (Dp b b0 mL b.due.length k H) ∧ Below Z3.heap.size Z3 wr) (fun i _ => mL.length - (intOf i).toNat)
        case atStart => exact ⟨0, 0, _, .map [], Nat.zero_le _, rfl, hI6, O0, hs_nil, Nat.le_refl _, hid hK0, by omega, hDp, hbr5.trans (eM.mono (Nat.le_of_lt hz5))⟩
        case round =>
         clear O0 eM hmZ hK0 hI6 hI5 hDp
         obtain ⟨k, nn0, H, D, hk, rfl, hI, OT, HT, hnn, hKp, hsz, hDp, hbq⟩ := hrel
         by_cases hkl : k < mL.length
         ·have hkl' : (k : Int) < mL.length := by omega
          obtain ⟨zd, off, rfl, zlt, hcell⟩ := lmU.elem (i := k) (x := mL.getD k zD) (by simp [List.getD, hkl])
          have kp := fun (p : Nat) => (cell_kept (hKp.out zd (Nat.lt_trans zlt hz5) (Nat.ne_of_lt zlt)) p).trans (hbr5.cell (p := ⟨zd, p, none⟩) zlt)
          have e0 := (kp _).trans (hcell 0 _ rfl)
          have e1 := (kp _).trans (hcell 1 _ rfl)
          have e2 := (kp _).trans (hcell 2 _ rfl)
          have e3 := (kp _).trans (hcell 3 _ rfl)
          have e4 := (kp _).trans (hcell 4 _ rfl)
          have e5 := (kp _).trans (hcell 5 _ rfl)
          simp only [Nat.add_zero] at e0
          dsimp only [kDd] at e0 e1 e2 e3 e4 e5
          obtain ⟨hf1, hf2⟩ := hfm _ (getD_mem' zD hkl)
          have hka : k < A.length := by rw [hAl.out]; exact hkl
          obtain ⟨zn, on, rfl, znl, hca⟩ := lA.elem (i := k) (x := ans b0 mL k) (by rw [← hAt.out k]; simp [List.getD, hka])
          have hzn : zn ≠ Z3.heap.size := by
           have := hAn ⟨zn, on, none⟩ rfl (fun h => by rw [h] at hka; simp at hka)
           dsimp only at this
           omega
          have g05 := hca 0 _ rfl
          simp only [Nat.add_zero] at g05
          dsimp only [kAn] at g05
          have hka' : (k : Int) < A.length := by omega
          have hpo := fun h0 hm => hid (fun j => paid_old (b := b0) (l := mL) (i := k) h0 hm j)
          have hpn := fun hn h => hid (fun j => paid_no (b := b0) hkl hn h j)
          have hpy := fun hn h1 h2 => hid (paid_yes I0 hkl hn h1 h2)
          have hin := hid (ids_next hkl)
          clear hcell hca kp
          generalize mL.getD k zD = d at *
          obtain ⟨x1, x2, x3, x4, x5, x6⟩ := d
          dsimp only at hf1 hf2 hpo hpn hpy hin e0 e1 e2 e3 e4 e5
          generalize ans b0 mL k = an at *
          obtain ⟨an1, an2⟩ := an
          dsimp only at hpn hpy g05
          generalize ids mL k = Lk at *
          have hb1 := below_alloc wr (.cells #[.int .i64 x1, .int .i64 x2, .int .i64 x3, .int .i64 x4, .int .i64 x5, .int .i64 x6] 74)
          have hz1 : (wr.alloc (.cells #[.int .i64 x1, .int .i64 x2, .int .i64 x3, .int .i64 x4, .int .i64 x5, .int .i64 x6] 74)).heap[wr.heap.size]? = some (.cells #[.int .i64 x1, .int .i64 x2, .int .i64 x3, .int .i64 x4, .int .i64 x5, .int .i64 x6] 74) := heap_alloc_at _ _ _ rfl
          have OT1 := owns_h' OT (hb1.block _ (owns_lt' OT))
          have hI1 := hI.below hb1
          have hK1 := hid (fun j (hj : j < Z5.heap.size) hn => (hb1.block j (by omega)).trans (hKp.out j hj hn))
          have hsz1 := Nat.le_trans hsz hb1.size
          have hzb : Z5.heap.size + 1 ≤ wr.heap.size := hsz
          have hbq1 := hbq.trans (hb1.mono hbq.size)
          go_upto_region 45 with fail
          generalize wr.alloc (.cells #[.int .i64 x1, .int .i64 x2, .int .i64 x3, .int .i64 x4, .int .i64 x5, .int .i64 x6] 74) = Y at *
          clear e0 e1 e2 e3 e4 e5 hb1 hI OT hKp hsz zlt hbq
          generalize wr.heap.size = zb at *
          obtain ⟨d0, d1, d2, d3, d4, d5⟩ := ddo_cells (d := (⟨x1, x2, x3, x4, x5, x6⟩ : Dd)) hz1
          dsimp only at d0 d1 d2 d3 d4 d5
          by_cases hq : x1 ≠ 0 ∧ x1 ∈ Lk
          ·have hlk := had_look OT1 HT hf1 hf2
           rw [decide_eq_true hq.2] at hlk
           have hx0 : (x1 != 0) = true := by simpa using hq.1
           have hN := hid (hDp.out.same (hpo hq.1 hq.2).out)
           have HT' : Hs (ids mL (k + 1)) D := HT.same (fun i => by rw [hin.out]; simp only [List.mem_append, List.mem_singleton]; exact ⟨fun h => h.elim id (fun e => e ▸ hq.2), Or.inl⟩)
           clear hq hpo hpn hpy
           go_wp2_with fail
           go_roundw
           case rel => exact ⟨k + 1, nn0, H, D, by omega, by go_num, hI1, OT1, HT', by omega, hK1, hsz1, hN, hbq1⟩
           case measure => simp [intOf]; omega
          ·have hn : x1 = 0 ∨ x1 ∉ Lk := by
            by_cases h0 : x1 = 0
            ·exact Or.inl h0
            ·exact Or.inr (fun hm => hq ⟨h0, hm⟩)
           have hgo : Hid ((x1 != 0) = false ∨ ((x1 != 0) = true ∧ (Instr.lookup 77 (.map (some Z5.heap.size)) (.int .i64 x1) false).run Tryz.prog Y = .ok (.bool false) Y)) := hid (by
            by_cases h0 : x1 = 0
            ·left; simp [h0]
            ·right
             have hlk := had_look OT1 HT hf1 hf2
             rw [decide_eq_false (hn.resolve_left h0)] at hlk
             exact ⟨by simpa using h0, hlk⟩)
           obtain ⟨Y2, hmu, O2, hg2, hs2⟩ := had_put OT1 (by omega) hf1 hf2
           have hH2 : Hs (ids mL (k + 1)) (D.put (.int .i64 x1) (.lit (.bool true))) := by rw [hin.out]; exact HT.put x1
           have hz2 := hid ((hg2.block zb (lt_of_block hz1) (fun e => by injection e with e; omega)).trans hz1)
           have hI2 := hI1.keep (hg2.block _ hI1.lt (fun e => by injection e with e; omega))
           have hK2 := hid (fun j (hj : j < Z5.heap.size) hn => (hg2.block j (by omega) (fun e => by injection e with e; omega)).trans (hK1.out j hj hn))
           have hsz2 : Z5.heap.size + 1 ≤ Y2.heap.size := by omega
           have hbq2 := hbq1.grown hg2 (by omega) (fun j hj => by injection hj with hj; omega)
           have g0' := (cell_kept (hK2.out zn znl hzn) _).trans g05
           replace hpn := hid (hpn hn)
           replace hpy := hid (hpy hn)
           clear hpo hq hn OT1 HT hI1 hg2 hsz1 hin hK1 hbq1
           rcases hgo.out with hx0 | ⟨hx0, hlk⟩
           all_goals
            clear hgo
            go_upto_region 47 with fail
            clear hmu d0 d1 d2 d3 d4 d5 hx0
            try clear hlk
            obtain ⟨d0, d1, d2, d3, d4, d5⟩ := ddo_cells (d := (⟨x1, x2, x3, x4, x5, x6⟩ : Dd)) hz2.out
            dsimp only at d0 d1 d2 d3 d4 d5
            by_cases h11 : x2 = 11
            ·by_cases he : an1 = 0
             ·obtain ⟨n, hxn, hnl, hpd⟩ := (hpy.out h11 he).out
              subst he h11 hxn
              have hpl := (play_lens I0 (mL.take k)).2
              have hbl : b.due.length = b0.due.length := by rw [hbe.out]; exact (play_lens I0 mL).2
              have hnb : n < b.due.length := by omega
              have hnb' : (n : Int) < b.due.length := by omega
              have hdt := due_tot (play_inv I0 (mL.take k)) (k := n) (by omega)
              have hcs := capt_small (fun x hx => (I.out.held.auths x hx).1) n b.auths.length (Nat.le_refl _)
              rw [List.take_length] at hcs
              have hps := paid_small I0 (l := mL) n k (Nat.le_of_lt hkl)
              have hHn := hDp.out.at' n hnb
              have hlenH := hDp.out.len
              have hN := hid (hDp.out.paid (c := n) hpd)
              have hprek := hpre.out k (Nat.le_of_lt hkl)
              have htl : (mL.take k).length = k := by rw [List.length_take]; omega
              have hbwY : Below w.heap.size w Y2 := BU.bel.trans (hbq2.mono BU.bel.size)
              have hP2 := fun (X : World) (h : Below Y2.heap.size Y2 X) => hQN.out X (hbwY.trans (h.mono hbwY.size)) (mL.take k) cm (fun d hd => hfm d (List.mem_of_mem_take hd)) (lies_take ((lmU.below hbq2).below h) k)
              rw [hprek, htl] at hP2
              dsimp only at hP2
              have hx1 := hI2.cell (i := n) (by rw [hlenH]; exact hnb)
              have hx2 := hI2.free n
              have hvb : -141000000000000 ≤ H.getD n 0 ∧ H.getD n 0 ≤ 141000000000000 := by rw [hHn]; omega
              have hroomk : k ≤ cm := by omega
              have hsW := (hK2.out w.heap.size (Nat.lt_of_lt_of_le (lt_of_block hsU) (Nat.le_of_lt hz5)) (Nat.ne_of_lt (lt_of_block hsU))).trans hsU5
              obtain ⟨s0, s1, s2⟩ := sul_cells hsW
              have hz30 : Z3.heap.size ≠ 0 := by have := lt_of_block hsU; omega
              have hz3Y : Z3.heap.size < Y2.heap.size := hI2.lt
              have hzbY : zb < Y2.heap.size := lt_of_block hz2.out
              have hzb3 : zb ≠ Z3.heap.size := by omega
              have hO2 := owns_lt' O2
              generalize hdv : (playL b0 (mL.take k)).1.due.getD n 0 = dv at hdt hN
              generalize hbk : (playL b0 (mL.take k)).1 = bk at *
              generalize (playL b0 (mL.take k)).2.map (·.2) = Ak at *
              replace hdv := hid hdv
              replace hpl := hid (hpl.trans hbl.symm)
              generalize H.getD n 0 = hv at *
              have hwp : IntKind.i64.wrap (hv - dv) = hv - dv := wrap64' (by omega) (by omega)
              clear hpn hpy hHn hlenH hprek htl hpd hbk hcs hps hbl hnl hbwY hDp
              go_upto_region 48 with fail
              clear g0'
              go_cut [23, 24, 25] from 195 to 203 (fun p q r wc => ∃ z g v2 cs2 ds2, p = .pointer (some ⟨z, 0, none⟩) ∧ r = .pointer (some ⟨g, 0, none⟩) ∧ wc.heap[z]? = some (bko bk v2) ∧ Shows wc bk v2 cs2 ds2 ∧ Below Y2.heap.size Y2 wc ∧ (∀ a c, v2.d = .slice a bk.due.length c → ∀ ad, a = some ad → bk.due ≠ [] → ad.block ≠ Z3.heap.size) ∧ Y2.heap.size ≤ z)
              case first =>
               refine wp_region_held_drew (S := (fun X => Below Y2.heap.size Y2 X)) (by kernel_rfl) ((Below.refl _ _).drew) (fun hS => ?_)
               have hbd : Below Y2.heap.size Y2 Y2.drew := (Below.refl _ _).drew
               generalize Y2.drew = Yd at *
               refine tk 0 (.agg #[.slice a ps.length c, .int .i64 shops, .int .i64 cap]) hS ?_ ?_
               ·intro w' hS'; have q0 := (hS'.cell (cell_lt s0)).trans s0; have q1 := (hS'.cell (cell_lt s1)).trans s1; have q2 := (hS'.cell (cell_lt s2)).trans s2; go_simp
               refine tk 1 (.slice (some ⟨zd, off, none⟩) mL.length cm) hS ?_ ?_
               ·intro w' _; go_simp
               refine tk 2 (.int .i64 (k : Int)) hS ?_ ?_
               ·intro w' _; go_simp
               refine tk 3 (.slice (some ⟨zd, off, none⟩) k cm) hS ?_ ?_
               ·intro w' _; go_simp
               try simp only [List.getElem_toArray, List.getElem_cons_zero, List.getElem_cons_succ, Act.put, List.setIfInBounds_toArray, List.set_cons_zero, List.set_cons_succ]
               refine wpAnyH_ready (rs := [4, 9, 10]) (by kernel_rfl) (by simp) ?_
               refine AllReadyH.cons rfl (fun K hK => ?_) (AllReadyH.cons rfl (fun K hK => ?_) (AllReadyH.cons rfl (fun K hK => ?_) AllReadyH.nil))
               go_simp
               refine (hP2 _ hbd).mono ?_
               rintro _ w22 ⟨v2, cs2, ds2, va2, rfl, SH2, AP2, hb5⟩
               have M := fin_mk (zs := #[.int .i64 0, .bool false, .slice none 0 0, .slice none 0 0, .slice none 0 0, .int .i64 0, .slice none 0 0, .int .i64 0, .slice none 0 0, .int .i64 0, .int .i64 0, .slice none 0 0, .slice none 0 0, .int .i64 0, .slice none 0 0, .slice none 0 0, .slice none 0 0, .slice none 0 0, .slice none 0 0]) rfl hbd hb5 SH2 hz3Y hz30
               have hbA := hbd.trans (hb5.mono hbd.size)
               have hone := hid SH2.shows.one
               have hinf : Hid ((Tryz.prog.info? 43).map (·.size) = some (cellsK bk v2).size) := hid infoK
               clear SH2 AP2 hP2 hb5
               generalize hcc : cellsK bk v2 = cc2 at *
               replace hcc := hid hcc
               unfold fo at M
               go_simp
               refine hK.out _ _ hbA (fun hS => ?_)
               clear hK K
               refine tk 5 (.tuple #[.agg cc2, va2, .agg #[.int .i64 0, .int .i64 0]]) hS ?_ ?_
               ·intro w' _; go_simp
               refine tk 6 (.agg cc2) hS ?_ ?_
               ·intro w' _; go_simp
               refine tk 7 (va2) hS ?_ ?_
               ·intro w' _; go_simp
               refine tk 8 (.agg #[.int .i64 0, .int .i64 0]) hS ?_ ?_
               ·intro w' _; go_simp
               try simp only [List.getElem_toArray, List.getElem_cons_zero, List.getElem_cons_succ, Act.put, List.setIfInBounds_toArray, List.set_cons_zero, List.set_cons_succ]
               refine wpAnyH_ready (rs := [9, 10]) (by kernel_rfl) (by simp) ?_
               refine AllReadyH.cons rfl (fun K hK => ?_) (AllReadyH.cons rfl (fun K hK => ?_) AllReadyH.nil)
               go_simp
               have hc1 := bel_alloc hbA (.cells #[.int .i64 0, .bool false, .slice none 0 0, .slice none 0 0, .slice none 0 0, .int .i64 0, .slice none 0 0, .int .i64 0, .slice none 0 0, .int .i64 0, .int .i64 0, .slice none 0 0, .slice none 0 0, .int .i64 0, .slice none 0 0, .slice none 0 0, .slice none 0 0, .slice none 0 0, .slice none 0 0] 43)
               refine hK.out _ _ hc1 (fun hS => ?_)
               clear hK K
               try simp only [List.getElem_toArray, List.getElem_cons_zero, List.getElem_cons_succ, Act.put, List.setIfInBounds_toArray, List.set_cons_zero, List.set_cons_succ]
               refine rd 10 (.cons rfl (fun K hK => ?_) .nil)
               go_simp
               have hc2 := bel_alloc hc1 (.cells #[.int .i64 0, .int .i64 0] 47)
               refine hK.out _ _ hc2 (fun hS => ?_)
               clear hK K
               have F := M.2.2.2.1
               clear M
               generalize (w22.alloc (.cells #[.int .i64 0, .bool false, .slice none 0 0, .slice none 0 0, .slice none 0 0, .int .i64 0, .slice none 0 0, .int .i64 0, .slice none 0 0, .int .i64 0, .int .i64 0, .slice none 0 0, .slice none 0 0, .int .i64 0, .slice none 0 0, .slice none 0 0, .slice none 0 0, .slice none 0 0, .slice none 0 0] 43)).alloc (.cells #[.int .i64 0, .int .i64 0] 47) = W2 at *
               generalize w22.heap.size + 1 = g at *
               generalize w22.heap.size = z at *
               rotate_left
               go_simp
               have hc1 := bel_alloc hbA (.cells #[.int .i64 0, .int .i64 0] 47)
               refine hK.out _ _ hc1 (fun hS => ?_)
               clear hK K
               try simp only [List.getElem_toArray, List.getElem_cons_zero, List.getElem_cons_succ, Act.put, List.setIfInBounds_toArray, List.set_cons_zero, List.set_cons_succ]
               refine rd 9 (.cons rfl (fun K hK => ?_) .nil)
               go_simp
               have hc2 := bel_alloc hc1 (.cells #[.int .i64 0, .bool false, .slice none 0 0, .slice none 0 0, .slice none 0 0, .int .i64 0, .slice none 0 0, .int .i64 0, .slice none 0 0, .int .i64 0, .int .i64 0, .slice none 0 0, .slice none 0 0, .int .i64 0, .slice none 0 0, .slice none 0 0, .slice none 0 0, .slice none 0 0, .slice none 0 0] 43)
               refine hK.out _ _ hc2 (fun hS => ?_)
               clear hK K
               have F := M.2.2.2.2
               clear M
               generalize (w22.alloc (.cells #[.int .i64 0, .int .i64 0] 47)).alloc (.cells #[.int .i64 0, .bool false, .slice none 0 0, .slice none 0 0, .slice none 0 0, .int .i64 0, .slice none 0 0, .int .i64 0, .slice none 0 0, .int .i64 0, .int .i64 0, .slice none 0 0, .slice none 0 0, .int .i64 0, .slice none 0 0, .slice none 0 0, .slice none 0 0, .slice none 0 0, .slice none 0 0] 43) = W2 at *
               generalize w22.heap.size + 1 = z at *
               generalize w22.heap.size = g at *
               rotate_left
               go_simp
               have hc1 := bel_alloc hbd (.cells #[.int .i64 0, .bool false, .slice none 0 0, .slice none 0 0, .slice none 0 0, .int .i64 0, .slice none 0 0, .int .i64 0, .slice none 0 0, .int .i64 0, .int .i64 0, .slice none 0 0, .slice none 0 0, .int .i64 0, .slice none 0 0, .slice none 0 0, .slice none 0 0, .slice none 0 0, .slice none 0 0] 43)
               refine hK.out _ _ hc1 (fun hS => ?_)
               clear hK K
               have hB0 : (Yd.alloc (.cells #[.int .i64 0, .bool false, .slice none 0 0, .slice none 0 0, .slice none 0 0, .int .i64 0, .slice none 0 0, .int .i64 0, .slice none 0 0, .int .i64 0, .int .i64 0, .slice none 0 0, .slice none 0 0, .int .i64 0, .slice none 0 0, .slice none 0 0, .slice none 0 0, .slice none 0 0, .slice none 0 0] 43)).heap[Yd.heap.size]? = some (.cells #[.int .i64 0, .bool false, .slice none 0 0, .slice none 0 0, .slice none 0 0, .int .i64 0, .slice none 0 0, .int .i64 0, .slice none 0 0, .int .i64 0, .int .i64 0, .slice none 0 0, .slice none 0 0, .int .i64 0, .slice none 0 0, .slice none 0 0, .slice none 0 0, .slice none 0 0, .slice none 0 0] 43) := heap_alloc_at _ _ _ rfl
               have hYd := hbd.size
               try simp only [List.getElem_toArray, List.getElem_cons_zero, List.getElem_cons_succ, Act.put, List.setIfInBounds_toArray, List.set_cons_zero, List.set_cons_succ]
               refine wpAnyH_ready (rs := [4, 10]) (by kernel_rfl) (by simp) ?_
               refine AllReadyH.cons rfl (fun K hK => ?_) (AllReadyH.cons rfl (fun K hK => ?_) AllReadyH.nil)
               go_simp
               refine (hP2 _ hc1).mono ?_
               rintro _ w22 ⟨v2, cs2, ds2, va2, rfl, SH2, AP2, hb5⟩
               have M := fin_mk (zs := #[.int .i64 0, .bool false, .slice none 0 0, .slice none 0 0, .slice none 0 0, .int .i64 0, .slice none 0 0, .int .i64 0, .slice none 0 0, .int .i64 0, .int .i64 0, .slice none 0 0, .slice none 0 0, .int .i64 0, .slice none 0 0, .slice none 0 0, .slice none 0 0, .slice none 0 0, .slice none 0 0]) rfl hc1 hb5 SH2 hz3Y hz30
               have hbA := hc1.trans (hb5.mono hc1.size)
               have hone := hid SH2.shows.one
               have hinf : Hid ((Tryz.prog.info? 43).map (·.size) = some (cellsK bk v2).size) := hid infoK
               clear SH2 AP2 hP2 hb5
               generalize hcc : cellsK bk v2 = cc2 at *
               replace hcc := hid hcc
               unfold fo at M
               go_simp
               refine hK.out _ _ hbA (fun hS => ?_)
               clear hK K
               refine tk 5 (.tuple #[.agg cc2, va2, .agg #[.int .i64 0, .int .i64 0]]) hS ?_ ?_
               ·intro w' _; go_simp
               refine tk 6 (.agg cc2) hS ?_ ?_
               ·intro w' _; go_simp
               refine tk 7 (va2) hS ?_ ?_
               ·intro w' _; go_simp
               refine tk 8 (.agg #[.int .i64 0, .int .i64 0]) hS ?_ ?_
               ·intro w' _; go_simp
               try simp only [List.getElem_toArray, List.getElem_cons_zero, List.getElem_cons_succ, Act.put, List.setIfInBounds_toArray, List.set_cons_zero, List.set_cons_succ]
               refine rd 10 (.cons rfl (fun K hK => ?_) .nil)
               go_simp
               have hc2 := bel_alloc hbA (.cells #[.int .i64 0, .int .i64 0] 47)
               refine hK.out _ _ hc2 (fun hS => ?_)
               clear hK K
               have F := M.2.1 _ hB0 hYd
               clear M
               generalize w22.alloc (.cells #[.int .i64 0, .int .i64 0] 47) = W2 at *
               generalize Yd.heap.size = z at *
               generalize w22.heap.size = g at *
               rotate_left
               go_simp
               have hc2 := bel_alloc hc1 (.cells #[.int .i64 0, .int .i64 0] 47)
               refine hK.out _ _ hc2 (fun hS => ?_)
               clear hK K
               have hB1 := ((below_alloc (Yd.alloc (.cells #[.int .i64 0, .bool false, .slice none 0 0, .slice none 0 0, .slice none 0 0, .int .i64 0, .slice none 0 0, .int .i64 0, .slice none 0 0, .int .i64 0, .int .i64 0, .slice none 0 0, .slice none 0 0, .int .i64 0, .slice none 0 0, .slice none 0 0, .slice none 0 0, .slice none 0 0, .slice none 0 0] 43)) (.cells #[.int .i64 0, .int .i64 0] 47)).block _ (lt_of_block hB0)).trans hB0
               have hF1 : ((Yd.alloc (.cells #[.int .i64 0, .bool false, .slice none 0 0, .slice none 0 0, .slice none 0 0, .int .i64 0, .slice none 0 0, .int .i64 0, .slice none 0 0, .int .i64 0, .int .i64 0, .slice none 0 0, .slice none 0 0, .int .i64 0, .slice none 0 0, .slice none 0 0, .slice none 0 0, .slice none 0 0, .slice none 0 0] 43)).alloc (.cells #[.int .i64 0, .int .i64 0] 47)).heap[Yd.heap.size + 1]? = some (.cells #[.int .i64 0, .int .i64 0] 47) := heap_alloc_at _ _ _ (by simp)
               try simp only [List.getElem_toArray, List.getElem_cons_zero, List.getElem_cons_succ, Act.put, List.setIfInBounds_toArray, List.set_cons_zero, List.set_cons_succ]
               refine rd 4 (.cons rfl (fun K hK => ?_) .nil)
               go_simp
               refine (hP2 _ hc2).mono ?_
               rintro _ w22 ⟨v2, cs2, ds2, va2, rfl, SH2, AP2, hb5⟩
               have M := fin_mk (zs := #[.int .i64 0, .bool false, .slice none 0 0, .slice none 0 0, .slice none 0 0, .int .i64 0, .slice none 0 0, .int .i64 0, .slice none 0 0, .int .i64 0, .int .i64 0, .slice none 0 0, .slice none 0 0, .int .i64 0, .slice none 0 0, .slice none 0 0, .slice none 0 0, .slice none 0 0, .slice none 0 0]) rfl hc2 hb5 SH2 hz3Y hz30
               have hbA := hc2.trans (hb5.mono hc2.size)
               have hone := hid SH2.shows.one
               have hinf : Hid ((Tryz.prog.info? 43).map (·.size) = some (cellsK bk v2).size) := hid infoK
               clear SH2 AP2 hP2 hb5
               generalize hcc : cellsK bk v2 = cc2 at *
               replace hcc := hid hcc
               unfold fo at M
               go_simp
               refine hK.out _ _ hbA (fun hS => ?_)
               clear hK K
               refine tk 5 (.tuple #[.agg cc2, va2, .agg #[.int .i64 0, .int .i64 0]]) hS ?_ ?_
               ·intro w' _; go_simp
               refine tk 6 (.agg cc2) hS ?_ ?_
               ·intro w' _; go_simp
               refine tk 7 (va2) hS ?_ ?_
               ·intro w' _; go_simp
               refine tk 8 (.agg #[.int .i64 0, .int .i64 0]) hS ?_ ?_
               ·intro w' _; go_simp
               have F := M.1 _ _ hB1 hF1 (by omega) hYd
               clear M
               generalize w22 = W2 at *
               generalize Yd.heap.size + 1 = g at *
               generalize Yd.heap.size = z at *
               rotate_left
               go_simp
               have hc1 := bel_alloc hbd (.cells #[.int .i64 0, .int .i64 0] 47)
               refine hK.out _ _ hc1 (fun hS => ?_)
               clear hK K
               have hF0 : (Yd.alloc (.cells #[.int .i64 0, .int .i64 0] 47)).heap[Yd.heap.size]? = some (.cells #[.int .i64 0, .int .i64 0] 47) := heap_alloc_at _ _ _ rfl
               have hYd := hbd.size
               try simp only [List.getElem_toArray, List.getElem_cons_zero, List.getElem_cons_succ, Act.put, List.setIfInBounds_toArray, List.set_cons_zero, List.set_cons_succ]
               refine wpAnyH_ready (rs := [4, 9]) (by kernel_rfl) (by simp) ?_
               refine AllReadyH.cons rfl (fun K hK => ?_) (AllReadyH.cons rfl (fun K hK => ?_) AllReadyH.nil)
               go_simp
               refine (hP2 _ hc1).mono ?_
               rintro _ w22 ⟨v2, cs2, ds2, va2, rfl, SH2, AP2, hb5⟩
               have M := fin_mk (zs := #[.int .i64 0, .bool false, .slice none 0 0, .slice none 0 0, .slice none 0 0, .int .i64 0, .slice none 0 0, .int .i64 0, .slice none 0 0, .int .i64 0, .int .i64 0, .slice none 0 0, .slice none 0 0, .int .i64 0, .slice none 0 0, .slice none 0 0, .slice none 0 0, .slice none 0 0, .slice none 0 0]) rfl hc1 hb5 SH2 hz3Y hz30
               have hbA := hc1.trans (hb5.mono hc1.size)
               have hone := hid SH2.shows.one
               have hinf : Hid ((Tryz.prog.info? 43).map (·.size) = some (cellsK bk v2).size) := hid infoK
               clear SH2 AP2 hP2 hb5
               generalize hcc : cellsK bk v2 = cc2 at *
               replace hcc := hid hcc
               unfold fo at M
               go_simp
               refine hK.out _ _ hbA (fun hS => ?_)
               clear hK K
               refine tk 5 (.tuple #[.agg cc2, va2, .agg #[.int .i64 0, .int .i64 0]]) hS ?_ ?_
               ·intro w' _; go_simp
               refine tk 6 (.agg cc2) hS ?_ ?_
               ·intro w' _; go_simp
               refine tk 7 (va2) hS ?_ ?_
               ·intro w' _; go_simp
               refine tk 8 (.agg #[.int .i64 0, .int .i64 0]) hS ?_ ?_
               ·intro w' _; go_simp
               try simp only [List.getElem_toArray, List.getElem_cons_zero, List.getElem_cons_succ, Act.put, List.setIfInBounds_toArray, List.set_cons_zero, List.set_cons_succ]
               refine rd 9 (.cons rfl (fun K hK => ?_) .nil)
               go_simp
               have hc2 := bel_alloc hbA (.cells #[.int .i64 0, .bool false, .slice none 0 0, .slice none 0 0, .slice none 0 0, .int .i64 0, .slice none 0 0, .int .i64 0, .slice none 0 0, .int .i64 0, .int .i64 0, .slice none 0 0, .slice none 0 0, .int .i64 0, .slice none 0 0, .slice none 0 0, .slice none 0 0, .slice none 0 0, .slice none 0 0] 43)
               refine hK.out _ _ hc2 (fun hS => ?_)
               clear hK K
               have F := M.2.2.1 _ hF0
               clear M
               generalize w22.alloc (.cells #[.int .i64 0, .bool false, .slice none 0 0, .slice none 0 0, .slice none 0 0, .int .i64 0, .slice none 0 0, .int .i64 0, .slice none 0 0, .int .i64 0, .int .i64 0, .slice none 0 0, .slice none 0 0, .int .i64 0, .slice none 0 0, .slice none 0 0, .slice none 0 0, .slice none 0 0, .slice none 0 0] 43) = W2 at *
               generalize w22.heap.size = z at *
               generalize Yd.heap.size = g at *
               rotate_left
               go_simp
               have hc2 := bel_alloc hc1 (.cells #[.int .i64 0, .bool false, .slice none 0 0, .slice none 0 0, .slice none 0 0, .int .i64 0, .slice none 0 0, .int .i64 0, .slice none 0 0, .int .i64 0, .int .i64 0, .slice none 0 0, .slice none 0 0, .int .i64 0, .slice none 0 0, .slice none 0 0, .slice none 0 0, .slice none 0 0, .slice none 0 0] 43)
               refine hK.out _ _ hc2 (fun hS => ?_)
               clear hK K
               have hF1 := ((below_alloc (Yd.alloc (.cells #[.int .i64 0, .int .i64 0] 47)) (.cells #[.int .i64 0, .bool false, .slice none 0 0, .slice none 0 0, .slice none 0 0, .int .i64 0, .slice none 0 0, .int .i64 0, .slice none 0 0, .int .i64 0, .int .i64 0, .slice none 0 0, .slice none 0 0, .int .i64 0, .slice none 0 0, .slice none 0 0, .slice none 0 0, .slice none 0 0, .slice none 0 0] 43)).block _ (lt_of_block hF0)).trans hF0
               have hB1 : ((Yd.alloc (.cells #[.int .i64 0, .int .i64 0] 47)).alloc (.cells #[.int .i64 0, .bool false, .slice none 0 0, .slice none 0 0, .slice none 0 0, .int .i64 0, .slice none 0 0, .int .i64 0, .slice none 0 0, .int .i64 0, .int .i64 0, .slice none 0 0, .slice none 0 0, .int .i64 0, .slice none 0 0, .slice none 0 0, .slice none 0 0, .slice none 0 0, .slice none 0 0] 43)).heap[Yd.heap.size + 1]? = some (.cells #[.int .i64 0, .bool false, .slice none 0 0, .slice none 0 0, .slice none 0 0, .int .i64 0, .slice none 0 0, .int .i64 0, .slice none 0 0, .int .i64 0, .int .i64 0, .slice none 0 0, .slice none 0 0, .int .i64 0, .slice none 0 0, .slice none 0 0, .slice none 0 0, .slice none 0 0, .slice none 0 0] 43) := heap_alloc_at _ _ _ (by simp)
               try simp only [List.getElem_toArray, List.getElem_cons_zero, List.getElem_cons_succ, Act.put, List.setIfInBounds_toArray, List.set_cons_zero, List.set_cons_succ]
               refine rd 4 (.cons rfl (fun K hK => ?_) .nil)
               go_simp
               refine (hP2 _ hc2).mono ?_
               rintro _ w22 ⟨v2, cs2, ds2, va2, rfl, SH2, AP2, hb5⟩
               have M := fin_mk (zs := #[.int .i64 0, .bool false, .slice none 0 0, .slice none 0 0, .slice none 0 0, .int .i64 0, .slice none 0 0, .int .i64 0, .slice none 0 0, .int .i64 0, .int .i64 0, .slice none 0 0, .slice none 0 0, .int .i64 0, .slice none 0 0, .slice none 0 0, .slice none 0 0, .slice none 0 0, .slice none 0 0]) rfl hc2 hb5 SH2 hz3Y hz30
               have hbA := hc2.trans (hb5.mono hc2.size)
               have hone := hid SH2.shows.one
               have hinf : Hid ((Tryz.prog.info? 43).map (·.size) = some (cellsK bk v2).size) := hid infoK
               clear SH2 AP2 hP2 hb5
               generalize hcc : cellsK bk v2 = cc2 at *
               replace hcc := hid hcc
               unfold fo at M
               go_simp
               refine hK.out _ _ hbA (fun hS => ?_)
               clear hK K
               refine tk 5 (.tuple #[.agg cc2, va2, .agg #[.int .i64 0, .int .i64 0]]) hS ?_ ?_
               ·intro w' _; go_simp
               refine tk 6 (.agg cc2) hS ?_ ?_
               ·intro w' _; go_simp
               refine tk 7 (va2) hS ?_ ?_
               ·intro w' _; go_simp
               refine tk 8 (.agg #[.int .i64 0, .int .i64 0]) hS ?_ ?_
               ·intro w' _; go_simp
               have F := M.1 _ _ hB1 hF1 (by omega) (by omega)
               clear M
               generalize w22 = W2 at *
               generalize Yd.heap.size + 1 = z at *
               generalize Yd.heap.size = g at *
               rotate_left
               all_goals
                obtain ⟨f1, f2, f3, f4, f5, f6, f7, f8⟩ := F
                obtain ⟨t0, t1, t2, t3⟩ := fo_cells f2
                dsimp only at t0 t1
                try simp only [List.getElem_toArray, List.getElem_cons_zero, List.getElem_cons_succ, Act.put, List.setIfInBounds_toArray, List.set_cons_zero, List.set_cons_succ]
                refine rd 11 (.cons rfl (fun K hK => ?_) .nil)
                rw [if_pos (by kernel_rfl)]
                refine wp_store_mid 43 _ _ rfl z 0 cc2 rfl rfl f1 hinf.out hone.out ?_
                generalize W2.setCells z 0 cc2.toList = YY at *
                refine hK.out _ _ (f3) (fun hS => ?_)
                clear hK K
                try simp only [List.getElem_toArray, List.getElem_cons_zero, List.getElem_cons_succ, Act.put]
                refine rd 12 (.cons rfl (fun K hK => ?_) .nil)
                go_simp
                refine hK.out _ _ (f3) (fun hS => ?_)
                clear hK K
                try simp only [List.getElem_toArray, List.getElem_cons_zero, List.getElem_cons_succ, Act.put, List.setIfInBounds_toArray, List.set_cons_zero, List.set_cons_succ]
                refine rd 13 (.cons rfl (fun K hK => ?_) .nil)
                go_simp
                refine hK.out _ _ (f6) (fun hS => ?_)
                clear hK K
                try simp only [List.getElem_toArray, List.getElem_cons_zero, List.getElem_cons_succ, Act.put, List.setIfInBounds_toArray, List.set_cons_zero, List.set_cons_succ]
                refine wpAnyH_done (by kernel_rfl) ?_ _
                generalize (YY.setCell ⟨g, 0, none⟩ (.int .i64 0)).setCell ⟨g, 1, none⟩ (.int .i64 0) = V at *
                go_wp2_with fail
                go_meet
                exact ⟨z, g, v2, cs2, ds2, rfl, rfl, f4, f5, f6, f7, f8⟩
              case rest =>
               obtain ⟨z, g, v2, cs2, ds2, rfl, rfl, f4, f5, f6, f7, f8⟩ := hcut
               clear hP2 s0 s1 s2
               generalize wc = V at *
               obtain ⟨-, -, -, X3, -⟩ := bko_cells f4
               obtain ⟨a3, c3, q3, l3⟩ := f5.due.lies
               rw [q3] at X3
               have hnk : n < bk.due.length := by rw [hpl.out]; exact hnb
               have hnk' : (n : Int) < bk.due.length := by omega
               obtain ⟨zz, oo, rfl, zzl, x0⟩ := int_cell l3 hnk
               rw [hdv.out] at x0
               have hzz : zz ≠ Z3.heap.size := f7 _ _ q3 _ rfl (fun h => by rw [h] at hnk; exact absurd hnk (Nat.not_lt_zero _))
               have hzV := lt_of_block f4
               have hz3 : z ≠ Z3.heap.size := by omega
               have eD : Below V.heap.size V V.drew := (Below.refl _ _).drew
               have hbV := f6.trans (eD.mono f6.size)
               have hS9 : V.drew.cell? ⟨zb, 2, none⟩ = some (.int .i64 (n : Int)) ∧ V.drew.cell? ⟨z, 3, none⟩ = some (.slice (some ⟨zz, oo, none⟩) bk.due.length c3) ∧ V.drew.cell? ⟨zz, oo + n, none⟩ = some (.int .i64 dv) := ⟨(hbV.cell (p := ⟨zb, 2, none⟩) hzbY).trans d2, (eD.cell (p := ⟨z, 3, none⟩) hzV).trans X3, (eD.cell (p := ⟨zz, oo + n, none⟩) zzl).trans x0⟩
               have hID := hI2.below hbV
               have hx1D := (hbV.cell (p := ⟨Z3.heap.size, n, none⟩) hz3Y).trans hx1
               have hx2D := hID.free n
               have hOD := owns_h' O2 (hbV.block _ hO2)
               have hKD := hid (fun j (hj : j < Z5.heap.size) hn => (hbV.block j (by omega)).trans (hK2.out j hj hn))
               have hqD := hbq2.trans (hbV.mono hbq2.size)
               have hsD : Z5.heap.size + 1 ≤ V.drew.heap.size := Nat.le_trans hsz2 hbV.size
               clear f4 f5 f6 f7 f8 l3 X3 x0 eD q3 zzl hpl hdv
               go_upto_region 49 with fail
               refine wp_region_held_drew (S := (fun X => X.cell? ⟨zb, 2, none⟩ = some (.int .i64 (n : Int)) ∧ X.cell? ⟨z, 3, none⟩ = some (.slice (some ⟨zz, oo, none⟩) bk.due.length c3) ∧ X.cell? ⟨zz, oo + n, none⟩ = some (.int .i64 dv))) (by kernel_rfl) hS9 (fun hS => ?_)
               generalize V.drew = Vd at *
               refine tk 0 (.slice (some ⟨Z3.heap.size, 0, none⟩) b.due.length b.due.length) hS ?_ ?_
               ·intro w' _; go_simp
               refine tk 1 (.pointer (some ⟨zb, 2, none⟩)) hS ?_ ?_
               ·intro w' _; go_simp
               refine tk 2 (.int .i64 (n : Int)) hS ?_ ?_
               ·intro w' hS'; obtain ⟨e0, e1, e2⟩ := hS'; go_simp
               refine tk 3 (.slice (some ⟨Z3.heap.size, 0, none⟩) b.due.length b.due.length) hS ?_ ?_
               ·intro w' _; go_simp
               try simp only [List.getElem_toArray, List.getElem_cons_zero, List.getElem_cons_succ, Act.put, List.setIfInBounds_toArray, List.set_cons_zero, List.set_cons_succ]
               refine tk 4 (.pointer (some ⟨zb, 2, none⟩)) hS ?_ ?_
               ·intro w' _; go_simp
               refine tk 5 (.int .i64 (n : Int)) hS ?_ ?_
               ·intro w' hS'; obtain ⟨e0, e1, e2⟩ := hS'; go_simp
               refine tk 6 (.pointer (some ⟨Z3.heap.size, n, none⟩)) hS ?_ ?_
               ·intro w' _; go_simp
               refine tk 8 (.pointer (some ⟨z, 3, none⟩)) hS ?_ ?_
               ·intro w' _; go_simp
               try simp only [List.getElem_toArray, List.getElem_cons_zero, List.getElem_cons_succ, Act.put, List.setIfInBounds_toArray, List.set_cons_zero, List.set_cons_succ]
               refine tk 9 (.slice (some ⟨zz, oo, none⟩) bk.due.length c3) hS ?_ ?_
               ·intro w' hS'; obtain ⟨e0, e1, e2⟩ := hS'; go_simp
               refine tk 10 (.pointer (some ⟨zb, 2, none⟩)) hS ?_ ?_
               ·intro w' _; go_simp
               refine tk 11 (.int .i64 (n : Int)) hS ?_ ?_
               ·intro w' hS'; obtain ⟨e0, e1, e2⟩ := hS'; go_simp
               refine tk 12 (.pointer (some ⟨zz, oo + n, none⟩)) hS ?_ ?_
               ·intro w' _; go_simp
               try simp only [List.getElem_toArray, List.getElem_cons_zero, List.getElem_cons_succ, Act.put, List.setIfInBounds_toArray, List.set_cons_zero, List.set_cons_succ]
               refine tk 13 (.int .i64 dv) hS ?_ ?_
               ·intro w' hS'; obtain ⟨e0, e1, e2⟩ := hS'; go_simp
               try simp only [List.getElem_toArray, List.getElem_cons_zero, List.getElem_cons_succ, Act.put, List.setIfInBounds_toArray, List.set_cons_zero, List.set_cons_succ]
               refine rd 7 (.cons rfl (fun K hK => ?_) .nil)
               go_simp
               refine hK.out _ _ (hS9) (fun hS => ?_)
               clear hK K
               refine tk 14 (.int .i64 (hv - dv)) hS ?_ ?_
               ·intro w' _; go_simp
               refine tk 15 (.pointer (some ⟨Z3.heap.size, n, none⟩)) hS ?_ ?_
               ·intro w' _; go_simp
               try simp only [List.getElem_toArray, List.getElem_cons_zero, List.getElem_cons_succ, Act.put, List.setIfInBounds_toArray, List.set_cons_zero, List.set_cons_succ]
               refine rd 16 (.cons rfl (fun K hK => ?_) .nil)
               go_simp
               refine hK.out _ _ (⟨(cell_kept (heap_setCell_other Vd ⟨Z3.heap.size, n, none⟩ zb _ hzb3) 2).trans hS9.1, (cell_kept (heap_setCell_other Vd ⟨Z3.heap.size, n, none⟩ z _ hz3) 3).trans hS9.2.1, (cell_kept (heap_setCell_other Vd ⟨Z3.heap.size, n, none⟩ zz _ hzz) (oo + n)).trans hS9.2.2⟩) (fun hS => ?_)
               clear hK K
               try simp only [List.getElem_toArray, List.getElem_cons_zero, List.getElem_cons_succ, Act.put, List.setIfInBounds_toArray, List.set_cons_zero, List.set_cons_succ]
               refine wpAnyH_done (by kernel_rfl) ?_ _
               go_wp2_with fail
               go_roundw
               case rel => exact ⟨k + 1, nn0 + 1, _, _, by omega, by go_num, hID.set n _, owns_h' hOD (heap_setCell_other Vd ⟨Z3.heap.size, n, none⟩ _ _ (by show Z5.heap.size ≠ Z3.heap.size; omega)), hH2, by omega, hid (fun j hj hn => (heap_setCell_other Vd ⟨Z3.heap.size, n, none⟩ j _ hn).trans (hKD.out j hj hn)), by simpa using hsD, hN, hqD.setCell (p := ⟨Z3.heap.size, n, none⟩) (Nat.le_refl _) _⟩
               case measure => simp [intOf]; omega
             ·have hN := hid (hDp.out.same (hpn.out (fun q => he q.2)).out)
              have heb : (an1 == 0) = false := by simpa using he
              clear hpn hpy he
              go_wp2_with fail
              go_roundw
              case rel => exact ⟨k + 1, nn0 + 1, H, _, by omega, by go_num, hI2, O2, hH2, by omega, hK2, hsz2, hN, hbq2⟩
              case measure => simp [intOf]; omega
            ·have hN := hid (hDp.out.same (hpn.out (fun q => h11 q.1)).out)
             have h11' : (x2 == 11) = false := by simpa using h11
             clear hpn hpy h11
             go_wp2_with fail
             go_roundw
             case rel => exact ⟨k + 1, nn0 + 1, H, _, by omega, by go_num, hI2, O2, hH2, by omega, hK2, hsz2, hN, hbq2⟩
             case measure => simp [intOf]; omega
         ·obtain rfl : k = mL.length := by omega
          have hge : ¬ ((mL.length : Int) < mL.length) := by omega
          have hHe : Hid (∀ j, j < b.due.length → H.getD j 0 = b.due.getD j 0) := hid fun j hj => by rw [hDp.out.at' j hj, D3.out j]
          have hHl : Hid (H.length = b.due.length) := hid hDp.out.len
          clear hDp HT OT hnn
          obtain ⟨f3', k3', r3', l3⟩ := BU.sh.due.lies
          rw [r3.out] at r3'
          injection r3' with q1 _ q2
          subst q1 q2
          have hw23 := lt_of_block BU.box
          obtain ⟨-, -, -, X3, -⟩ := bko_cells BU.box
          rw [r3.out] at X3
          have X3R := (hbq.cell (p := ⟨w2.heap.size, 3, none⟩) hw23).trans X3
          have hbf := BU.bel.trans (hbq.mono BU.bel.size)
          clear hsz hKp X3 hk hkl
          generalize wr = R3 at *
          go_upto_region 52 with fail
          go_loopw [223] (fun i X => ∃ m : Nat, m ≤ b.due.length ∧ i = .int .i64 m ∧ Below R3.heap.size R3 X) (fun i _ => b.due.length - (intOf i).toNat)
          case atStart => exact ⟨0, Nat.zero_le _, rfl, Below.refl _ _⟩
          case round =>
           obtain ⟨m, hm, rfl, hbX⟩ := hrel
           by_cases hml : m < b.due.length
           ·have hml' : (m : Int) < b.due.length := by omega
            obtain ⟨z, o, rfl, zlt, f0⟩ := int_cell l3 hml
            have f0R := (hbX.cell (p := ⟨z, o + m, none⟩) (Nat.lt_of_lt_of_le zlt hbq.size)).trans ((hbq.cell (p := ⟨z, o + m, none⟩) zlt).trans f0)
            have x0 := (hI.below hbX).cell (i := m) (by rw [hHl.out]; exact hml)
            rw [hHe.out m hml] at x0
            have X3X := (hbX.cell (cell_lt X3R)).trans X3R
            generalize b.due.getD m 0 = dv at *
            go_upto_region 54 with fail
            go_quiet (fail)
            go_wp2_with fail
            go_roundw
            case rel => exact ⟨m + 1, by omega, by go_num, below_drewN hbX _⟩
            case measure => simp [intOf]; omega
           ·obtain rfl : m = b.due.length := by omega
            have hge2 : ¬ ((b.due.length : Int) < b.due.length) := by omega
            have hbf2 := hbf.trans (hbX.mono hbf.size)
            go_wp2_with fail
            exact bodyPost_ret (results_tmp Tryz.results8 _ _ _) rfl ⟨rfl, hbf2⟩
end Go.Proofs.YtofcnebekmjdoaaGreatDoor.Bn
