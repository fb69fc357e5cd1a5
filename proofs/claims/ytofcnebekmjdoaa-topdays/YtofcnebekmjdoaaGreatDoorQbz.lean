import Derived.Test.YtofcnebekmjdoaaGreatDoorQby
set_option maxHeartbeats 4000000
set_option maxRecDepth 100000
namespace Go.Proofs.YtofcnebekmjdoaaGreatDoor.Bn
open RowKit Gn Maps
def psT : List Pa := [paceT, paceT]
theorem tsetup_any (cap : Int) (w : World) : Calls Tryz.prog 41 #[.int .i64 cap] w fun e w' => ∃ z c, e = .returned (suv (.slice (some ⟨z, 0, none⟩) 2 c) 2 cap) ∧ Gn.Lies kPa w' (some ⟨z, 0, none⟩) c psT ∧ Below w.heap.size w w' ∧ w.heap.size ≤ z := by
 have e1 := below_alloc w (.cells #[.slice (some ⟨w.heap.size + 2, 0, none⟩) 2 2, .int .i64 2, .int .i64 cap] 24)
 have e2 := below_alloc (w.alloc (.cells #[.slice (some ⟨w.heap.size + 2, 0, none⟩) 2 2, .int .i64 2, .int .i64 cap] 24)) (.cells #[.int .i64 1000, .int .i64 30, .int .i64 1000000000000] 58)
 have e3 := below_alloc ((w.alloc (.cells #[.slice (some ⟨w.heap.size + 2, 0, none⟩) 2 2, .int .i64 2, .int .i64 cap] 24)).alloc (.cells #[.int .i64 1000, .int .i64 30, .int .i64 1000000000000] 58)) (.cells #[.int .i64 1000, .int .i64 30, .int .i64 1000000000000, .int .i64 1000, .int .i64 30, .int .i64 1000000000000] 58)
 have hp : Gn.Lies kPa (((w.alloc (.cells #[.slice (some ⟨w.heap.size + 2, 0, none⟩) 2 2, .int .i64 2, .int .i64 cap] 24)).alloc (.cells #[.int .i64 1000, .int .i64 30, .int .i64 1000000000000] 58)).alloc (.cells #[.int .i64 1000, .int .i64 30, .int .i64 1000000000000, .int .i64 1000, .int .i64 30, .int .i64 1000000000000] 58)) (some ⟨w.heap.size + 2, 0, none⟩) 2 psT := Fg (K := kPa) (L := psT) (heap_alloc_at _ _ _ (by simp)) (by kernel_rfl) (by simp [psT, maxLen]) _
 have hs : (((w.alloc (.cells #[.slice (some ⟨w.heap.size + 2, 0, none⟩) 2 2, .int .i64 2, .int .i64 cap] 24)).alloc (.cells #[.int .i64 1000, .int .i64 30, .int .i64 1000000000000] 58)).alloc (.cells #[.int .i64 1000, .int .i64 30, .int .i64 1000000000000, .int .i64 1000, .int .i64 30, .int .i64 1000000000000] 58)).heap[w.heap.size]? = some (suo (.slice (some ⟨w.heap.size + 2, 0, none⟩) 2 2) 2 cap) := (e3.block _ (by simp; omega)).trans ((e2.block _ (by simp)).trans (heap_alloc_at _ _ _ rfl))
 have hb := (e1.trans (e2.mono (by simp))).trans (e3.mono (by simp; omega))
 obtain ⟨s0, s1, s2⟩ := Gf hs
 clear e1 e2 e3 hs
 go_enter Tryz.func41, Tryz.ntmps41
 go_wp2_with fail
 generalize ((w.alloc (.cells #[.slice (some ⟨w.heap.size + 2, 0, none⟩) 2 2, .int .i64 2, .int .i64 cap] 24)).alloc (.cells #[.int .i64 1000, .int .i64 30, .int .i64 1000000000000] 58)).alloc (.cells #[.int .i64 1000, .int .i64 30, .int .i64 1000000000000, .int .i64 1000, .int .i64 30, .int .i64 1000000000000] 58) = X at *
 exact bodyPost_ret (v := suv (.slice (some ⟨w.heap.size + 2, 0, none⟩) 2 2) 2 cap) (by unfold suv; simp [results, Tryz.results41, go_sem, s0, s1, s2]; try rfl) rfl ⟨_, _, rfl, hp, hb, by omega⟩
theorem come_len : (Bq 5).length = 24 := by kernel_rfl
theorem come_at (i j k : Nat) (hi : i < 2) (hj : j < 2) (hk : k < 5) : (Bq 5).getD (12 * i + 2 + 5 * j + k) zD = ⟨0, 6, j, 0, 0, 0⟩ := by
 obtain rfl | rfl : i = 0 ∨ i = 1 := by omega
 all_goals obtain rfl | rfl : j = 0 ∨ j = 1 := by omega
 all_goals obtain rfl | rfl | rfl | rfl | rfl : k = 0 ∨ k = 1 ∨ k = 2 ∨ k = 3 ∨ k = 4 := by omega
 all_goals kernel_rfl
theorem come_two (i : Nat) (hi : i < 2) : (Bq 5).take (12 * i + 2) = (Bq 5).take (12 * i) ++ [⟨0, 5, 0, 0, 0, 0⟩, ⟨0, 5, 1, 0, 0, 0⟩] := by
 obtain rfl | rfl : i = 0 ∨ i = 1 := by omega
 all_goals kernel_rfl
theorem come_one (i j k : Nat) (hi : i < 2) (hj : j < 2) (hk : k < 5) : (Bq 5).take (12 * i + 2 + 5 * j + (k + 1)) = (Bq 5).take (12 * i + 2 + 5 * j + k) ++ [⟨0, 6, j, 0, 0, 0⟩] := by
 rw [← come_at i j k hi hj hk]
 exact take_snoc (i := 12 * i + 2 + 5 * j + k) _ (by rw [come_len]; omega)
structure Cg (w wr : World) (v0 : Value) (base : Nat) (v : Value) (L : List Dd) : Prop where
 row : Row kDd 74 wr base v L
 bel : Below base w wr
 size : base ≤ wr.heap.size
 keep : ∀ k, k < w.heap.size → v0.ownBlock ≠ some k → wr.heap[k]? = w.heap[k]?
 own : ∀ k, v.ownBlock = some k → v0.ownBlock = some k ∨ w.heap.size ≤ k
 big : w.heap.size ≤ wr.heap.size
theorem Cg.grow {w wr X w2 : World} {base : Nat} {v0 v v2 : Value} {L : List Dd} (C : Cg w wr v0 base v L) (hb : Below wr.heap.size wr X) (L2 : List Dd) (hr : Row kDd 74 w2 base v2 L2) (hg : X.grownBy w2 v.ownBlock) (hat : ∀ j, v2.ownBlock = some j → v.ownBlock = some j ∨ X.heap.size ≤ j) : Cg w w2 v0 base v2 L2 :=
 ⟨hr, Cv (C.bel.trans (hb.mono C.size)) hg (C.row.below hb) (Nat.le_refl _) (Nat.le_trans C.size hb.size), Nat.le_trans (Nat.le_trans C.size hb.size) hg.size,
  fun k hk hne => (hg.block k (Nat.lt_of_lt_of_le hk (Nat.le_trans C.big hb.size)) fun e => by
   rcases C.own k e.symm with h | h
   ·exact hne h
   ·omega).trans ((hb.block k (Nat.lt_of_lt_of_le hk C.big)).trans (C.keep k hk hne)),
  fun j hj => by
   rcases hat j hj with h | h
   ·exact C.own j h
   ·exact Or.inr (Nat.le_trans (Nat.le_trans C.big hb.size) h),
  Nat.le_trans (Nat.le_trans C.big hb.size) hg.size⟩
theorem cg_start {w : World} {v : Value} {base : Nat} {L : List Dd} (h : Row kDd 74 w base v L) (hs : base ≤ w.heap.size) : Cg w w v base v L := ⟨h, Below.refl _ _, hs, fun _ _ _ => rfl, fun _ h => Or.inl h, Nat.le_refl _⟩
theorem come_any (v : Value) (l : List Dd) (base : Nat) (w : World) (hl : Row kDd 74 w base v l) (hs : base ≤ w.heap.size) (h100 : l.length ≤ 100) :
  Calls Tryz.prog 38 #[v] w fun e w' => ∃ v', e = .returned v' ∧ Cg w w' v base v' (l ++ Bq 5) := by
 have hD := fun (k n s : Int) (X : World) => tdo_any k n s X
 unfold Ik at hD
 go_enter Tryz.func38, Tryz.ntmps38
 go_upto_region 2 with fail
 go_loopw [4, 0] (fun i vo wr => ∃ (k : Nat), k ≤ 2 ∧ i = .int .i64 k ∧ Cg w wr v base vo (l ++ (Bq 5).take (12 * k))) (fun i _ _ => 2 - (intOf i).toNat)
 case atStart => exact ⟨0, by omega, rfl, cg_start (by simpa using hl) hs⟩
 case round =>
  obtain ⟨i, hi, rfl, C⟩ := hrel
  by_cases hlt : i < 2
  ·have hlt' : (i : Int) < 2 := by omega
   have hlen : (l ++ (Bq 5).take (12 * i)).length ≤ 124 := by rw [List.length_append, List.length_take, come_len]; omega
   have h2 := hid (come_two i hlt)
   have hCL : Hid ((Bq 5).length = 24) := hid come_len
   go_upto_region 3 with fail
   go_wp2_with fail
   refine (hD _ _ _ _).mono ?_
   rintro _ w2 ⟨rfl, hb2⟩
   go_wp2_with fail
   refine (hD _ _ _ _).mono ?_
   rintro _ w3 ⟨rfl, hb3⟩
   have hb4 := below_alloc w3 (.cells #[.int .i64 0, .int .i64 5, .int .i64 0, .int .i64 0, .int .i64 0, .int .i64 0, .int .i64 0, .int .i64 5, .int .i64 1, .int .i64 0, .int .i64 0, .int .i64 0] 74)
   have hone : Gn.Lies kDd (w3.alloc (.cells #[.int .i64 0, .int .i64 5, .int .i64 0, .int .i64 0, .int .i64 0, .int .i64 0, .int .i64 0, .int .i64 5, .int .i64 1, .int .i64 0, .int .i64 0, .int .i64 0] 74)) (some ⟨w3.heap.size, 0, none⟩) 2 [⟨0, 5, 0, 0, 0, 0⟩, ⟨0, 5, 1, 0, 0, 0⟩] := Fg (K := kDd) (L := [⟨0, 5, 0, 0, 0, 0⟩, ⟨0, 5, 1, 0, 0, 0⟩]) (heap_alloc_at _ _ _ rfl) rfl (by simp [maxLen]) _
   have hbX := (hb2.trans (hb3.mono hb2.size)).trans (hb4.mono (Nat.le_trans hb2.size hb3.size))
   have hrow := C.row.below hbX
   have hsz := Nat.le_trans C.size hbX.size
   clear hb2 hb3 hb4
   go_upto_region 4 with (at_builtin; refine Ai elemDd _ rfl _ _ rfl base u0 (l ++ (Bq 5).take (12 * i)) rfl hrow _ 2 2 [⟨0, 5, 0, 0, 0, 0⟩, ⟨0, 5, 1, 0, 0, 0⟩] rfl rfl hone (by simp [maxLen] at hlen ⊢; omega) (by simp at hlen ⊢; omega) hsz ?_; intro v2 w4 hown hgrow hat hon)
   have C2 := C.grow hbX _ hown hgrow hat
   rw [List.append_assoc, ← h2.out] at C2
   clear hown hgrow hat hon C hrow hsz hbX hone h2 hlen
   go_upto_region 5 with fail
   go_loopw [11, 0] (fun x vo wr => ∃ (j : Nat), j ≤ 2 ∧ x = .int .i64 j ∧ Cg w wr v base vo (l ++ (Bq 5).take (12 * i + 2 + 5 * j))) (fun x _ _ => 2 - (intOf x).toNat)
   case atStart => exact ⟨0, by omega, rfl, C2⟩
   case round =>
    clear C2
    obtain ⟨j, hj, rfl, C⟩ := hrel
    by_cases hjt : j < 2
    ·have hjt' : (j : Int) < 2 := by omega
     go_upto_region 8 with fail
     go_loopw [14, 0] (fun x vo wr => ∃ (k : Nat), k ≤ 5 ∧ x = .int .i64 k ∧ Cg w wr v base vo (l ++ (Bq 5).take (12 * i + 2 + 5 * j + k))) (fun x _ _ => 5 - (intOf x).toNat)
     case atStart => exact ⟨0, by omega, rfl, C⟩
     case round =>
      clear C
      obtain ⟨k, hk, rfl, C⟩ := hrel
      by_cases hkt : k < 5
      ·have hkt' : (k : Int) < 5 := by omega
       have h3 := hid (come_one i j k hlt hjt hkt)
       have hlen : (l ++ (Bq 5).take (12 * i + 2 + 5 * j + k)).length ≤ 124 := by rw [List.length_append, List.length_take, hCL.out]; omega
       go_upto_region 9 with fail
       go_wp2_with fail
       refine (hD _ _ _ _).mono ?_
       rintro _ w3 ⟨rfl, hb3⟩
       have hb4 := below_alloc w3 (.cells #[.int .i64 0, .int .i64 6, .int .i64 j, .int .i64 0, .int .i64 0, .int .i64 0] 74)
       have hone : Gn.Lies kDd (w3.alloc (.cells #[.int .i64 0, .int .i64 6, .int .i64 j, .int .i64 0, .int .i64 0, .int .i64 0] 74)) (some ⟨w3.heap.size, 0, none⟩) 1 [⟨0, 6, j, 0, 0, 0⟩] := Fg (K := kDd) (L := [⟨0, 6, j, 0, 0, 0⟩]) (heap_alloc_at _ _ _ rfl) rfl (by simp [maxLen]) _
       have hbX := hb3.trans (hb4.mono hb3.size)
       have hrow := C.row.below hbX
       have hsz := Nat.le_trans C.size hbX.size
       clear hb3 hb4
       go_wp2_with (at_builtin; refine Ai elemDd _ rfl _ _ rfl base u0 (l ++ (Bq 5).take (12 * i + 2 + 5 * j + k)) rfl hrow _ 1 1 [⟨0, 6, j, 0, 0, 0⟩] rfl rfl hone (by simp [maxLen] at hlen ⊢; omega) (by simp at hlen ⊢; omega) hsz ?_; intro v2 w4 hown hgrow hat hon)
       have C2 := C.grow hbX _ hown hgrow hat
       rw [List.append_assoc, ← h3.out] at C2
       go_roundw
       case rel => exact ⟨k + 1, by omega, by go_num, C2⟩
       case measure => simp [intOf]; omega
      ·obtain rfl : k = 5 := by omega
       go_wp2_with fail
       go_roundw
       case rel => exact ⟨j + 1, by omega, by go_num, by rw [show 12 * i + 2 + 5 * (j + 1) = 12 * i + 2 + 5 * j + 5 by omega]; exact C⟩
       case measure => simp [intOf]; omega
    ·obtain rfl : j = 2 := by omega
     go_wp2_with fail
     go_roundw
     case rel => exact ⟨i + 1, by omega, by go_num, by rw [show 12 * (i + 1) = 12 * i + 2 + 5 * 2 by omega]; exact C⟩
     case measure => simp [intOf]; omega
  ·obtain rfl : i = 2 := by omega
   go_wp2_with fail
   exact bodyPost_ret (results_tmp Tryz.results38 _ _ _) rfl ⟨_, rfl, by rw [show Bq 5 = (Bq 5).take (12 * 2) from by kernel_rfl]; exact C⟩
def thr : List Dd := [⟨0, 1, 0, 0, 0, 100⟩, ⟨0, 2, 0, 0, 0, 60⟩, ⟨0, 3, 0, 0, 3, 40⟩]
theorem fit0 {l : List Dd} (h : ∀ d ∈ l, d.id = 0) : ∀ d ∈ l, FitD d := fun d hd => by
 unfold FitD
 rw [h d hd]
 exact ⟨by decide, by decide⟩
theorem come0 : ∀ d ∈ Bq 5, d.id = 0 := by
 intro d hd
 unfold Bq Dm at hd
 simp only [List.mem_append, List.mem_cons, List.mem_replicate, List.not_mem_nil, or_false] at hd
 rcases hd with ((((rfl | rfl) | ⟨-, rfl⟩) | ⟨-, rfl⟩) | (((rfl | rfl) | ⟨-, rfl⟩) | ⟨-, rfl⟩)) <;> rfl
theorem two_of {α : Type} {l : List α} (h : l.length = 2) : ∃ x y, l = [x, y] := by
 match l, h with
 | [x, y], _ => exact ⟨x, y, rfl⟩
theorem talive_plain : (Ig psT 2 0 (thr ++ Bq 5)).2.2 = (0, 0) ∧ (Ig psT 2 0 (thr ++ Bq 5)).1.due = [40, 0] ∧ (Ig psT 2 0 (thr ++ Bq 5)).1.cards.map (fun c => (c.m, c.h)) = [(60, 0), (0, 0)] := ⟨by kernel_rfl, by kernel_rfl, by kernel_rfl⟩
theorem talive_facts {w w' : World} {v : Vs} {cs : List CV} {ds : List DV} (SH : Shows w (Ig psT 2 0 (thr ++ Bq 5)).1 v cs ds) (hb : Below w.heap.size w w') :
  ∃ z2 o2 c2 z3 o3 c3, v.d = .slice (some ⟨z2, o2, none⟩) 2 c2 ∧ w'.cell? ⟨z2, o2, none⟩ = some (.int .i64 40) ∧ v.c = .slice (some ⟨z3, o3, none⟩) 2 c3 ∧ w'.cell? ⟨z3, o3, none⟩ = some (.int .i64 60) ∧ w'.cell? ⟨z3, o3 + 1, none⟩ = some (.int .i64 0) := by
 obtain ⟨-, p3, p4⟩ := talive_plain
 have SH' := SH.below hb
 have hd := SH'.due
 have hc := SH'.cards
 have hcs := SH'.csv
 rw [p3] at hd
 have hcm : cs.map (fun x => (x.c.m, x.c.h)) = [(60, 0), (0, 0)] := by rw [← p4, ← hcs, List.map_map]; rfl
 obtain ⟨x, y, rfl⟩ := two_of (l := cs) (by have := congrArg List.length hcm; simpa using this)
 simp at hcm
 obtain ⟨a2, c2, h2, l2⟩ := hd.lies
 obtain ⟨a3, c3, h3, l3⟩ := hc.lies
 obtain ⟨z2, o2, rfl, -, f2⟩ := l2.elem (i := 0) (x := 40) rfl
 obtain ⟨z3, o3, rfl, -, f3⟩ := l3.elem (i := 0) (x := x) rfl
 refine ⟨z2, o2, c2, z3, o3, c3, h2, by simpa using f2 0 _ rfl, h3, ?_, ?_⟩
 ·have := f3 0 _ rfl
  simpa [hcm.1.1] using this
 ·have := f3 1 _ rfl
  simpa [hcm.1.2] using this
theorem talive_any (w : World) (O : Oth w) : Calls Tryz.prog 36 #[] w fun e w' => e = .returned (.bool true) ∧ Below w.heap.size w w' := by
 have hS := fun (X : World) => tsetup_any 0 X
 have hD := fun (k n s : Int) (X : World) => tdo_any k n s X
 have hM := fun (k n s : Int) (X : World) => tmove_any k n s X
 unfold Ik at hD hM
 have hC := fun (X : World) (v : Value) (base : Nat) (h1 : Row kDd 74 X base v thr) (h2 : base ≤ X.heap.size) => come_any v thr base X h1 h2 (by simp [thr])
 have hlen : (thr ++ Bq 5).length = 27 := by rw [List.length_append, come_len]; rfl
 have hP := fun (W : World) (a : Option Addr) (c : Nat) (al : Option Addr) (cl : Nat) (h : Gn.Lies kPa W a c psT) (hd : Gn.Lies kDd W al cl (thr ++ Bq 5)) (hO : Oth W) => play_any psT a c 2 0 al cl (thr ++ Bq 5) W h hd (fit0 fun d hd => by
  rcases List.mem_append.1 hd with h | h
  ·simp [thr] at h; rcases h with rfl | rfl | rfl <;> rfl
  ·exact come0 d h) hO
 have hF := fun (W W' : World) (v : Vs) (cs : List CV) (ds : List DV) (SH : Shows W (Ig psT 2 0 (thr ++ Bq 5)).1 v cs ds) (hb : Below W.heap.size W W') => talive_facts SH hb
 have hf := talive_plain.1
 generalize Ig psT 2 0 (thr ++ Bq 5) = r at *
 have hl1 : psT.length = 2 := rfl
 rw [hl1, hlen] at hP
 unfold suv at hS hP
 unfold Plays at hP
 rw [hf] at hP
 obtain ⟨b, A, f⟩ := r
 dsimp only at hP hF
 simp only [bkv_cells] at hP
 unfold Dy.fv at hP
 clear hf hl1
 go_enter Tryz.func36, Tryz.ntmps36
 go_upto_region 1 with fail
 go_upto_region 2 with fail
 refine (hS _).mono ?_
 rintro _ w1 ⟨za, c, rfl, hl, hb1, -⟩
 go_upto_region 2 with fail
 refine (hD _ _ _ _).mono ?_
 rintro _ w2 ⟨rfl, hb2⟩
 go_upto_region 2 with fail
 refine (hD _ _ _ _).mono ?_
 rintro _ w3 ⟨rfl, hb3⟩
 go_upto_region 2 with fail
 refine (hM _ _ _ _).mono ?_
 rintro _ w4 ⟨rfl, hb4⟩
 have hb14 := (hb2.trans (hb3.mono hb2.size)).trans (hb4.mono (Nat.le_trans hb2.size hb3.size))
 have hbw4 : Below w.heap.size w w4 := hb1.trans (hb14.mono hb1.size)
 have hl4 := hl.below hb14
 have e5 := below_alloc w4 (.cells #[.int .i64 0, .int .i64 1, .int .i64 0, .int .i64 0, .int .i64 0, .int .i64 100, .int .i64 0, .int .i64 2, .int .i64 0, .int .i64 0, .int .i64 0, .int .i64 60, .int .i64 0, .int .i64 3, .int .i64 0, .int .i64 0, .int .i64 3, .int .i64 40] 74)
 have hd5 : Gn.Lies kDd (w4.alloc (.cells #[.int .i64 0, .int .i64 1, .int .i64 0, .int .i64 0, .int .i64 0, .int .i64 100, .int .i64 0, .int .i64 2, .int .i64 0, .int .i64 0, .int .i64 0, .int .i64 60, .int .i64 0, .int .i64 3, .int .i64 0, .int .i64 0, .int .i64 3, .int .i64 40] 74)) (some ⟨w4.heap.size, 0, none⟩) 3 thr := Fg (K := kDd) (L := thr) (heap_alloc_at _ _ _ rfl) (by kernel_rfl) (by simp [thr, maxLen]) _
 have hR5 : Row kDd 74 (w4.alloc (.cells #[.int .i64 0, .int .i64 1, .int .i64 0, .int .i64 0, .int .i64 0, .int .i64 100, .int .i64 0, .int .i64 2, .int .i64 0, .int .i64 0, .int .i64 0, .int .i64 60, .int .i64 0, .int .i64 3, .int .i64 0, .int .i64 0, .int .i64 3, .int .i64 40] 74)) w4.heap.size (.slice (some ⟨w4.heap.size, 0, none⟩) 3 3) thr := Row.full (L := thr) w4.heap.size (Nat.le_refl _) hd5 (by simp)
 have hC5 := hC _ _ _ hR5 (by simp)
 clear hS hD hM hC hR5 hd5 hl hb1 hb2 hb3 hb4 hb14 hlen
 go_upto_region 2 with fail
 refine hC5.mono ?_
 rintro _ w5 ⟨v5, rfl, C5⟩
 obtain ⟨al, cl, rfl, hd6, -⟩ := C5.row.lies
 have hb5 : Below w4.heap.size w4 w5 := e5.trans C5.bel
 have hbw5 : Below w.heap.size w w5 := hbw4.trans (hb5.mono hbw4.size)
 have hP1 := hP w5 _ c al cl (hl4.below hb5) hd6 (O.keep (hbw5.block 0 O.lt))
 have hlen : (thr ++ Bq 5).length = 27 := by rw [List.length_append, come_len]; rfl
 rw [hlen]
 clear hC5 hP hl4 e5 C5 hd6 hlen hb5
 go_upto_region 2 with (first
  | (go_at_call 18; refine hP1.mono ?_; rintro _ w2 ⟨v, cs, ds, va, rfl, SH, AP, hb3⟩; obtain ⟨G1, G2, G3, G4, G5⟩ := got_box w2 #[.int .i64 0, .bool false, .slice none 0 0, .slice none 0 0, .slice none 0 0, .int .i64 0, .slice none 0 0, .int .i64 0, .slice none 0 0, .int .i64 0, .int .i64 0, .slice none 0 0, .slice none 0 0, .int .i64 0, .slice none 0 0, .slice none 0 0, .slice none 0 0, .slice none 0 0, .slice none 0 0] rfl b v (0, 0); have hF1 := hF _ _ _ _ _ SH G5; replace G3 := Em G3; obtain ⟨t0, t1, t2, t3⟩ := Ed G2; obtain ⟨y0, y1, y2, y3⟩ := Ed G4; have hone := hid SH.one; have hinf : Hid ((Tryz.prog.info? 43).map (·.size) = some (Ag b v).size) := hid infoK; have hb4 : Below w.heap.size w _ := (hbw5.trans (hb3.mono hbw5.size)).trans (G5.mono ((hbw5.trans (hb3.mono hbw5.size)).size)); dsimp only at t0 t1 y0 y1 G3 hb4 hF1; clear G4 G5 SH AP G2 hP1 hF; generalize Ag b v = cc at *)
  | (refine wpList_store_mid rfl 43 _ _ rfl w2.heap.size 0 cc rfl rfl G1 hinf.out hone.out ?_))
 generalize ((((w2.alloc (.cells #[.int .i64 0, .bool false, .slice none 0 0, .slice none 0 0, .slice none 0 0, .int .i64 0, .slice none 0 0, .int .i64 0, .slice none 0 0, .int .i64 0, .int .i64 0, .slice none 0 0, .slice none 0 0, .int .i64 0, .slice none 0 0, .slice none 0 0, .slice none 0 0, .slice none 0 0, .slice none 0 0] 43)).alloc (.cells #[.int .i64 0, .int .i64 0] 47)).setCells w2.heap.size 0 cc.toList).setCell ⟨w2.heap.size + 1, 0, none⟩ (.int .i64 0)).setCell ⟨w2.heap.size + 1, 1, none⟩ (.int .i64 0) = Z at *
 obtain ⟨-, -, c2, c3, -⟩ := G3
 obtain ⟨z2, o2, c2', z3, o3, c3', hvd, f2, hvc, f3, f4⟩ := hF1
 rw [hvd] at c3
 rw [hvc] at c2
 clear hvd hvc G1 t0 t1 t2 t3 hb3 hbw5 hbw4
 go_wp2_with fail
 exact bodyPost_ret (results_tmp Tryz.results36 _ _ _) rfl ⟨rfl, hb4⟩
theorem loads_no {b : Aa} {d : Dd} (h : d.kind ≠ 1) (k : Nat) : loads b d k = 0 := by unfold loads; rw [if_neg (fun x => h x.1)]
theorem pays_no {b : Aa} {d : Dd} (h : d.kind ≠ 11) (k : Nat) : paysOut b d k = 0 := by unfold paysOut; rw [if_neg (fun x => h x.1)]
theorem out_no {b : Aa} {d : Dd} (h : d.kind ≠ 1) (h2 : d.kind ≠ 11) : outD b d = 0 := by unfold outD; simp only [if_neg h, if_neg h2, ite_self]
theorem play_run0 (b : Aa) (ds : List Dd) (h : ∀ d ∈ ds, d.id = 0) : (C9 b ds).1 = run b ds := playL_run b [] ds h
theorem start_cbal (ps : List Pa) (n : Nat) (cap : Int) (k : Nat) : Er k (Av ps n cap) = 0 := by
 unfold Er
 have h1 : ((Av ps n cap).cards.getD k Ah).m = 0 := by
  by_cases hk : k < ps.length
  ·simp [Av, List.getD, hk]
  ·simp [Av, List.getD, hk, Ah]
 rw [h1]
 rfl
structure Got (b : Aa) (K M : Nat) (T c s has : Int) (a : Au.Au) : Prop where
 inv : Cj b
 bound : B6 K b
 down : b.down = false
 time : b.time = T
 auths : b.auths = [a]
 cards : b.cards.length = 2
 due : b.due.length = 2
 cb : Er c.toNat b = has
 ob : ∀ k : Nat, k < 2 → (k : Int) ≠ c → Er k b = 0
 db : ∀ k, bal k b = 0
 out : Bk.getE b.book 0 = -has
 way : ∀ i, b.way i = []
 kept : ∀ i, (b.snd i).kept.length ≤ M
 sent : ∀ i, (b.snd i).sent ≤ K
 today : b.today.length ≤ K
 card : a.card = c
 shop : a.shop = s
 c01 : c = 0 ∨ c = 1
 s01 : s = 0 ∨ s = 1
theorem got_ask {c s has asked : Int} (hc : c = 0 ∨ c = 1) (hs : s = 0 ∨ s = 1) (h1 : 1 ≤ asked) (h2 : asked ≤ has) (h3 : has ≤ 100000) :
  Got (run (Cl 0) [Dc c has, dAsk c s asked]) 2 0 0 c s has ⟨c, s, asked, 0, 0, 0, 100, false⟩ ∧ (By (Cl 0) (Dc c has)).2 = (0, 0) ∧ (By (By (Cl 0) (Dc c has)).1 (dAsk c s asked)).2 = (0, 0) := by
 have I0 : Cj (Cl 0) := top_inv (by decide)
 have B0 : B6 0 (Cl 0) := start_bound _ _ _
 have e1 := load_done (n := c) (sum := has) I0 B0 (by decide) (by omega) (by show c < (2 : Int); omega) (by omega) (by show _ ≤ (0 : Int); decide)
 have cd : (Cl 0).card c = ⟨0, 0, paceT, []⟩ := by rcases hc with rfl | rfl <;> rfl
 rw [cd] at e1
 have I1 := do_inv (d := Dc c has) I0
 have B1 := do_bound (d := Dc c has) I0 B0
 have A1 := do_accts (d := Dc c has) I0
 have c1 := do_cbal (d := Dc c has) I0 c.toNat (by show c.toNat < 2; omega)
 have d1 := fun k => do_bal (d := Dc c has) I0 k
 have x1 : ∀ k : Nat, k < 2 → (k : Int) ≠ c → Er k (By (Cl 0) (Dc c has)).1 = 0 := fun k hk hc => by
  rw [do_cbal (d := Dc c has) I0 k (by show k < 2; exact hk), show Er k (Cl 0) = 0 from start_cbal _ _ _ _]
  unfold loads
  rw [if_neg (fun h => hc h.2.2.symm)]; rfl
 have hl : loads (Cl 0) (Dc c has) c.toNat = has := by
  unfold loads
  rw [e1, if_pos ⟨rfl, rfl, by show c = ((c.toNat : Nat) : Int); omega⟩]; rfl
 have ho : outD (Cl 0) (Dc c has) = -has := by
  unfold outD
  rw [e1, if_pos rfl, if_pos (show (Dc c has).kind = 1 from rfl)]; rfl
 rw [show Er c.toNat (Cl 0) = 0 from start_cbal _ _ _ _, hl] at c1
 have A1o := A1.out
 rw [ho, show Bk.getE (Cl 0).book 0 = 0 from rfl] at A1o
 have w1 : (By (Cl 0) (Dc c has)).1.way = (Cl 0).way ∧ (By (Cl 0) (Dc c has)).1.snd = (Cl 0).snd ∧ (By (Cl 0) (Dc c has)).1.auths = [] ∧ (By (Cl 0) (Dc c has)).1.down = false ∧ (By (Cl 0) (Dc c has)).1.time = 0 ∧ (By (Cl 0) (Dc c has)).1.today = [] := by rw [e1]; exact ⟨rfl, rfl, rfl, rfl, rfl, rfl⟩
 obtain ⟨w1, s1, a1, dn1, t1, td1⟩ := w1
 have cd1 : (By (Cl 0) (Dc c has)).1.card c = ⟨0 + has, 0, paceT, []⟩ := by
  rw [e1]
  exact card_set (Cl 0) (Cl 0).cards c _ (by show c.toNat < 2; omega)
 have e12 : (By (Cl 0) (Dc c has)).2 = (0, 0) := by rw [e1]
 have l1 := A1.cards
 have l2 := A1.due
 have r0 : run (Cl 0) [Dc c has, dAsk c s asked] = (By (By (Cl 0) (Dc c has)).1 (dAsk c s asked)).1 := rfl
 rw [r0]
 clear r0
 have hb0 : ∀ k, bal k (Cl 0) = 0 := fun k => start_bal _ _ _ _
 have hp0 : ∀ k, paysOut (Cl 0) (Dc c has) k = 0 := fun k => pays_no (by show (1 : Int) ≠ 11; decide) k
 generalize By (Cl 0) (Dc c has) = r1 at *
 generalize r1.1 = b1 at *
 have hlc : b1.cards.length = 2 := l1
 have hld : b1.due.length = 2 := l2
 have ha := add_first (s := asked) (t := 0) (by omega) (by decide)
 have e2 := ask_done (n := c) (shop := s) (sum := asked) I1 dn1 (by omega) (by rw [hlc]; show c < (2 : Int); omega) (by omega) (by rw [hld]; show s < (2 : Int); omega) (by omega) (by rw [a1]; decide) (by rw [cd1]; dsimp only; omega) (by rw [cd1, t1, ha])
 have I2 := do_inv (d := dAsk c s asked) I1
 have B2 := do_bound (d := dAsk c s asked) I1 B1
 have A2 := do_accts (d := dAsk c s asked) I1
 have c2 := do_cbal (d := dAsk c s asked) I1 c.toNat (by omega)
 have d2 := fun k => do_bal (d := dAsk c s asked) I1 k
 rw [loads_no (by show (2 : Int) ≠ 1; decide), c1] at c2
 have A2o := A2.out
 rw [out_no (by show (2 : Int) ≠ 1; decide) (by show (2 : Int) ≠ 11; decide), A1o] at A2o
 refine ⟨⟨I2, B2, ?_, by rw [e2]; exact t1, ?_, by rw [A2.cards, hlc], by rw [A2.due, hld], by omega, fun k hk hn => ?_, fun k => ?_, by omega, fun i => ?_, fun i => ?_, fun i => ?_, ?_, rfl, rfl, hc, hs⟩, e12, ?_⟩
 ·rw [e2]; exact dn1
 ·rw [e2]; dsimp only; rw [a1, t1]; rfl
 ·rw [do_cbal (d := dAsk c s asked) I1 k (by omega), loads_no (by show (2 : Int) ≠ 1; decide), x1 k hk hn]; rfl
 ·rw [d2, pays_no (by show (2 : Int) ≠ 11; decide), d1, hp0, hb0]; rfl
 ·rw [e2]; dsimp only; rw [w1]; rfl
 ·rw [e2]; dsimp only; rw [s1]; show (0 : Nat) ≤ 0; decide
 ·rw [e2]; dsimp only; rw [s1]; show (0 : Int) ≤ 2; decide
 ·rw [e2]; dsimp only; rw [td1]; show (0 : Nat) ≤ 2; decide
 ·rw [e2, a1]; rfl
theorem put_sizes {s : Po.Se} {t : Po.Tr} (h : (Po.putS s t).2 = 0) : (Po.putS s t).1.kept.length = s.kept.length + 1 ∧ (Po.putS s t).1.sent = s.sent + 1 := by
 rw [(put_zero h).1]; simp [Po.outS]
def sends (k : Int) : Nat := if k = 2 ∨ k = 3 ∨ k = 5 ∨ k = 7 then 1 else 0
theorem send_sizes {sd : Bool → Po.Se} {k a n : Int} (h : (Aw sd k a n).2 = 0) (i : Bool) : ((Aw sd k a n).1 i).kept.length ≤ (sd i).kept.length + sends k ∧ ((Aw sd k a n).1 i).sent ≤ (sd i).sent + 1 := by
 have El : ∀ (j : Bool) (t : Po.Tr), (Po.putS (sd j) t).2 = 0 → (upd sd j (Po.putS (sd j) t).1 i).kept.length ≤ (sd i).kept.length + 1 ∧ (upd sd j (Po.putS (sd j) t).1 i).sent ≤ (sd i).sent + 1 := by
  intro j t h
  have := put_sizes h
  unfold upd
  split
  ·rename_i e; subst e; omega
  ·omega
 unfold Aw at h ⊢
 by_cases q1 : k = 2 ∨ k = 3
 ·rw [if_pos q1] at h ⊢; unfold sends; rw [if_pos (by omega)]; exact El _ _ h
 rw [if_neg q1] at h ⊢
 by_cases q2 : k = 5
 ·rw [if_pos q2] at h ⊢; unfold sends; rw [if_pos (by omega)]; exact El _ _ h
 rw [if_neg q2] at h ⊢
 by_cases q3 : k = 7
 ·rw [if_pos q3] at h ⊢; unfold sends; rw [if_pos (by omega)]; exact El _ _ h
 rw [if_neg q3]
 dsimp only
 omega
theorem Got.step {b : Aa} {K M : Nat} {T c s has : Int} {a : Au.Au} (G : Got b K M T c s has a) (hM : M ≤ 20) (hK : K ≤ 90) {mv n : Int} (he : Au.mvErr a mv n = 0) (h1 : mv ≠ 1) : By b (Bd mv 0 n) = (Bt b (Bd mv 0 n), 0, 0) ∧ Got (By b (Bd mv 0 n)).1 (K + 1) (M + sends mv) T c s has (Au.step a mv n) := by
 have hau : b.auth 0 = a := by unfold Aa.auth; rw [G.auths]; rfl
 have hc01 := G.c01
 have hs01 := G.s01
 have e := move_done (mv := mv) (n := 0) (sum := n) G.inv G.bound (by omega) G.down (by decide) (by rw [G.auths]; simp) (by rw [hau]; exact he) (fun h => h1 h.1) (fun i => by have := G.kept i; omega) (fun i => by have := G.sent i; omega) (by have := G.today; omega)
 refine ⟨e, ?_⟩
 have I2 := do_inv (d := Bd mv 0 n) G.inv
 have B2 := do_bound (d := Bd mv 0 n) G.inv G.bound
 have A2 := do_accts (d := Bd mv 0 n) G.inv
 have c2 := do_cbal (d := Bd mv 0 n) G.inv c.toNat (by rw [G.cards]; omega)
 have d2 := fun k => do_bal (d := Bd mv 0 n) G.inv k
 rw [loads_no (by show (3 : Int) ≠ 1; decide)] at c2
 have A2o := A2.out
 rw [out_no (by show (3 : Int) ≠ 1; decide) (by show (3 : Int) ≠ 11; decide)] at A2o
 have may := Au.mvErr_zero.1 he
 have n1 : 1 ≤ n := may.2.2.2.2.1
 have n2 : n ≤ 1000000 := may.2.2.2.2.2.1
 have hsend : (Aw b.snd mv 0 n).2 = 0 := by
  have hp : ∀ (i : Bool) (k : Int), 1 ≤ k → k ≤ 3 → (Po.putS (b.snd i) ⟨0, k, 0, n⟩).2 = 0 := fun i k a1 a2 => put_ok (G.inv.sent.right i) (by have := G.kept i; omega) (by have := G.sent i; omega) ⟨a1, a2⟩ ⟨by show (0 : Int) ≤ 0; decide, by show (0 : Int) < 30; decide⟩ ⟨n1, n2⟩
  unfold Aw
  repeat' split
  ·exact hp _ _ (by decide) (by decide)
  ·exact hp _ _ (by decide) (by decide)
  ·exact hp _ _ (by decide) (by decide)
  ·rfl
 obtain ⟨-, -, t3, t4, -⟩ := step_right may
 have cb := G.cb
 have out := G.out
 refine ⟨I2, B2, ?_, by rw [e]; exact G.time, ?_, by rw [A2.cards, G.cards], by rw [A2.due, G.due], by omega, fun k hk hn => ?_, fun k => ?_, by omega, fun i => ?_, fun i => ?_, fun i => ?_, ?_, by rw [t3, G.card], by rw [t4, G.shop], hc01, hs01⟩
 ·rw [e]; exact G.down
 ·rw [e]
  show b.auths.set 0 (Au.step (b.auth 0) mv n) = _
  rw [hau, G.auths]; rfl
 ·rw [do_cbal (d := Bd mv 0 n) G.inv k (by rw [G.cards]; exact hk), loads_no (by show (3 : Int) ≠ 1; decide), G.ob k hk hn]; rfl
 ·rw [d2, pays_no (by show (3 : Int) ≠ 11; decide), G.db]; rfl
 ·rw [e]; exact G.way i
 ·rw [e]
  show ((Aw b.snd mv 0 n).1 i).kept.length ≤ M + sends mv
  have := (send_sizes hsend i).1
  have := G.kept i
  omega
 ·rw [e]
  show ((Aw b.snd mv 0 n).1 i).sent ≤ ((K + 1 : Nat) : Int)
  have := (send_sizes hsend i).2
  have := G.sent i
  omega
 ·rw [e]
  show (b.today ++ [_]).length ≤ K + 1
  have := G.today
  rw [List.length_append, List.length_singleton]; omega
theorem Got.come {b : Aa} {K M : Nat} {T c s has : Int} {a : Au.Au} (G : Got b K M T c s has a) (hk : M ≤ 4) (hK : K ≤ 100) : Got (run b (Bq 5)) (K + 24) 0 T c s has a := by
 have hc01 := G.c01
 have C := come_ok (n := 5) G.inv G.bound (by omega) G.way (fun i => by have := G.kept i; omega)
 have I := run_inv G.inv (Bq 5)
 have B := run_bound G.inv G.bound (Bq 5)
 have hl : (Bq 5).length = 24 := by decide
 rw [hl] at B
 refine ⟨I, B, by rw [C.still.plain.down]; exact G.down, by rw [C.still.plain.time]; exact G.time, by rw [C.still.plain.auths]; exact G.auths, by rw [C.still.cards]; exact G.cards, by rw [C.still.due]; exact G.due, ?_, fun k hk hn => ?_, fun k => ?_, ?_, C.way, fun i => by rw [C.kept]; simp, fun i => ?_, ?_, G.card, G.shop, G.c01, G.s01⟩
 ·rw [C.still.cb _ (by rw [G.cards]; omega)]; exact G.cb
 ·rw [C.still.cb _ (by rw [G.cards]; omega)]; exact G.ob k hk hn
 ·rw [C.still.db]; exact G.db k
 ·rw [C.still.out]; exact G.out
 ·rw [C.sent]; have := G.sent i; omega
 ·rw [C.still.plain.today]; have := G.today; omega
theorem Got.right {b : Aa} {K M : Nat} {T c s has : Int} {a : Au.Au} (G : Got b K M T c s has a) : Au.wrongA a = 0 := by
 have := G.inv.held.auths a (by rw [G.auths]; simp)
 exact Au.wrongA_ok.2 ⟨this.1, this.2.1⟩
def ansL (b : Aa) : List Dd → List An
 | [] => []
 | d :: r => (By b d).2 :: ansL (By b d).1 r
theorem fold_ans (ds : List Dd) : ∀ s : Aa × List (Dd × An), (∀ d ∈ ds, d.id = 0) → (ds.foldl Cc s).2.map (·.2) = s.2.map (·.2) ++ ansL s.1 ds := by
 induction ds with
 | nil => intro s _; simp [ansL]
 | cons d r ih =>
  intro s h
  have h0 : d.id = 0 := h d List.mem_cons_self
  have e : Cc s d = ((By s.1 d).1, s.2 ++ [(d, ((By s.1 d).2.1, (By s.1 d).2.2))]) := by
   unfold Cc
   rw [if_pos h0]
  rw [List.foldl_cons, ih _ (fun x hx => h x (List.mem_cons_of_mem _ hx)), e]
  simp [ansL]
theorem play_ans (b : Aa) (ds : List Dd) (h : ∀ d ∈ ds, d.id = 0) : (C9 b ds).2.map (·.2) = ansL b ds := by
 have := fold_ans ds (b, []) h
 simpa [C9] using this
theorem playR_top {cap : Int} (hc : 0 ≤ cap ∧ cap ≤ 1000000) {l : List Dd} (h0 : ∀ d ∈ l, d.id = 0) (hl : l.length ≤ 150) : Ig psT 2 cap l = (run (Cl cap) l, ansL (Cl cap) l, (0, 0)) := by
 have hE : Bf psT 2 cap = (0, 0) := by
  unfold Bf
  rw [if_neg (by decide), if_neg (by omega)]
  kernel_rfl
 unfold Ig
 rw [hE, if_neg (by simp), if_neg (by omega), ← play_run0 _ _ h0, ← play_ans _ _ h0]
 rfl
theorem run_lens {b : Aa} (I : Cj b) (l : List Dd) : (run b l).cards.length = b.cards.length ∧ (run b l).due.length = b.due.length := by
 induction l generalizing b with
 | nil => exact ⟨rfl, rfl⟩
 | cons d r ih =>
  rw [Ga]
  have A := do_accts (d := d) I
  have I' : Cj (By b d).1 := run_inv I [d]
  exact ⟨(ih I').1.trans A.cards, (ih I').2.trans A.due⟩
theorem due_at {W : World} {b : Aa} {v : Vs} {cs : List CV} {ds : List DV} (SH : Shows W b v cs ds) {n k : Nat} (hn : b.due.length = n) (hk : k < n) :
  ∃ (z o c : Nat), v.d = .slice (some ⟨z, o, none⟩) n c ∧ W.cell? ⟨z, o + k, none⟩ = some (.int .i64 (b.due.getD k 0)) := by
 obtain ⟨a, c, h1, l1⟩ := SH.due.lies
 obtain ⟨z, o, rfl, -, hf⟩ := l1.elem (i := k) (x := b.due.getD k 0) (by simp [List.getD, show k < b.due.length by omega])
 have := hf 0 _ rfl
 dsimp only [kI] at this
 exact ⟨z, o, c, by rw [h1, hn], by simpa using this⟩
