import Derived.Test.YtofcnebekmjdoaaGreatDoorLBdayaa
set_option maxHeartbeats 4000000
set_option maxRecDepth 100000
namespace Go.Proofs.YtofcnebekmjdoaaGreatDoor.Dy
open Go.RowKit Go.Proofs.YtofcnebekmjdoaaGreatDoor.Gn
theorem getD_part {b : List Int} {lo m i : Nat} (h : i < m) : ((b.drop lo).take m).getD i 0 = b.getD (lo + i) 0 := by
 simp only [List.getD]
 rw [List.getElem?_take, if_pos h, List.getElem?_drop]
theorem recs_part {b : List Int} {n : Nat} : recs0 ((b.drop 1).take (6 * n)) n = recs b n := by
 unfold recs0 recs
 apply List.map_congr_left
 intro i hi
 rw [List.mem_range] at hi
 unfold decAt
 rw [getD_part (by omega), getD_part (by omega), getD_part (by omega), getD_part (by omega), getD_part (by omega), getD_part (by omega)]
 simp only [Nat.add_assoc]
theorem byt_part {b : List Int} (h : Byt b) (lo m : Nat) : Byt ((b.drop lo).take m) := fun x hx => h x (List.mem_of_mem_drop (List.mem_of_mem_take hx))
theorem last_part {b : List Int} (h : 4 ≤ b.length) : ((b.drop (b.length - 4)).take 4).foldl (fun n x => n * 256 + x) 0 = last4 b := by
 have e : (b.drop (b.length - 4)).take 4 = [b.getD (b.length - 4) 0, b.getD (b.length - 3) 0, b.getD (b.length - 2) 0, b.getD (b.length - 1) 0] := by
  apply List.ext_getElem?
  intro i
  rw [List.getElem?_take, List.getElem?_drop]
  by_cases hi : i < 4
  ·rw [if_pos hi]
   obtain rfl | rfl | rfl | rfl : i = 0 ∨ i = 1 ∨ i = 2 ∨ i = 3 := by omega
   ·simp [List.getD, show b.length - 4 < b.length by omega]
   ·rw [show b.length - 4 + 1 = b.length - 3 by omega]; simp [List.getD, show b.length - 3 < b.length by omega]
   ·rw [show b.length - 4 + 2 = b.length - 2 by omega]; simp [List.getD, show b.length - 2 < b.length by omega]
   ·rw [show b.length - 4 + 3 = b.length - 1 by omega]; simp [List.getD, show b.length - 1 < b.length by omega]
  ·rw [if_neg hi, List.getElem?_eq_none (by simp; omega)]
 rw [e]
 unfold last4
 simp
 omega
def AnswersP (w : World) (r : List Rc × Int) (e : Ending) (w' : World) : Prop := ∃ v', e = .returned (.tuple #[v', .int .i64 r.2]) ∧ Row kR 79 w' w.heap.size v' r.1 ∧ Below w.heap.size w w'
theorem parse_any (b : List Int) (v : Value) (w : World) (h : AtC kB w v b) (hb : Byt b) : Calls Tryz.prog 33 #[v] w (AnswersP w (parseR b)) := by
 have hm := h.at.len
 unfold maxLen at hm
 obtain ⟨a, c, rfl, hl, hcap⟩ := h
 by_cases h5 : b.length < 5
 ·have hE : Hid (parseR b = ([], 2)) := hid (parse_form (by unfold noForm; have := hb.at 0; omega))
  have h5' : (b.length : Int) < 5 := by omega
  go_enter Tryz.func33, Tryz.ntmps33
  go_wp2
  refine bodyPost_ret (v := .tuple #[.slice none 0 0, .int .i64 2]) (by simp [results, Tryz.results33, go_sem]; try rfl) rfl ?_
  rw [hE.out]
  exact ⟨_, rfl, .nil, Below.refl _ _⟩
 have h5' : ¬ ((b.length : Int) < 5) := by omega
 have h5a : (5 : Int) ≤ b.length := by omega
 obtain ⟨g, off, rfl, hg, f0⟩ := byte_cell hl (i := 0) (by omega)
 rw [Nat.add_zero] at f0
 have y0 := hb.at 0
 have z0 : IntKind.i64.wrap (b.getD 0 0) = b.getD 0 0 := wrap64' (by omega) (by omega)
 by_cases hf : noForm b
 ·have hE := hid (parse_form hf)
  have hf' : ((b.length : Int) != 5 + 6 * b.getD 0 0) = true := by unfold noForm at hf; rw [bne_iff_ne]; omega
  clear hf
  generalize b.getD 0 0 = x0 at *
  go_enter Tryz.func33, Tryz.ntmps33
  go_wp2
  refine bodyPost_ret (v := .tuple #[.slice none 0 0, .int .i64 2]) (by simp [results, Tryz.results33, go_sem]; try rfl) rfl ?_
  rw [hE.out]
  exact ⟨_, rfl, .nil, Below.refl _ _⟩
 obtain ⟨n, hn⟩ : ∃ n : Nat, b.getD 0 0 = n := ⟨(b.getD 0 0).toNat, by omega⟩
 have hlen : b.length = 5 + 6 * n := by unfold noForm at hf; omega
 have hf' : ((b.length : Int) != 5 + 6 * b.getD 0 0) = false := by unfold noForm at hf; rw [bne_eq_false_iff_eq]; omega
 have hnn : (b.getD 0 0).toNat = n := by omega
 have hn255 : n ≤ 255 := by omega
 -- the parts
 have hbody : AtC kB w (.slice (some ⟨g, off + 1, none⟩) (6 * n) (c - 1)) ((b.drop 1).take (6 * n)) := by
  refine ⟨some ⟨g, off + 1, none⟩, c - 1, ?_, lies_part hl (by omega), ?_⟩
  ·simp; omega
  ·simp; omega
 have hlast : At kB w (.slice (some ⟨g, off + (1 + 6 * n), none⟩) 4 (c - (1 + 6 * n))) ((b.drop (1 + 6 * n)).take 4) := by
  refine ⟨some ⟨g, off + (1 + 6 * n), none⟩, c - (1 + 6 * n), ?_, lies_part hl (by omega)⟩
  simp; omega
 have hrecs : ∀ X : World, Below w.heap.size w X → Calls Tryz.prog 69 #[.slice (some ⟨g, off + 1, none⟩) (6 * n) (c - 1)] X fun e w' => ∃ v', e = .returned v' ∧ Row kR 79 w' X.heap.size v' (recs b n) ∧ Below X.heap.size X w' := fun X hX => by
  have := records_any _ n _ X (hbody.below hX) (byt_part hb _ _) (by simp; omega) (by omega)
  rw [recs_part] at this
  exact this
 have hlast4 : ((b.drop (1 + 6 * n)).take 4).foldl (fun n x => n * 256 + x) 0 = last4 b := by
  have := last_part (b := b) (by omega)
  rw [show b.length - 4 = 1 + 6 * n by omega] at this; exact this
 have hread : ∀ X : World, Below w.heap.size w X → Calls Tryz.prog 71 #[.slice (some ⟨g, off + (1 + 6 * n), none⟩) 4 (c - (1 + 6 * n))] X fun e w' => e = .returned (.int .i64 (last4 b)) ∧ w' = X := fun X hX => by
  have := read_any _ _ X (hlast.below hX) (byt_part hb _ _) (by simp; omega)
  rw [hlast4] at this
  exact this
 have P1 := hid (parse_wrong hf)
 have P2 := hid (parse_fit hf)
 have P3 := hid (parse_ok hf)
 rw [hnn] at P1 P2 P3
 have hrl : (recs b n).length ≤ 255 := by rw [recs_length]; omega
 have hw4 : IntKind.i64.wrap ((b.length : Int) - 4) = ((1 + 6 * n : Nat) : Int) := (wrap64' (by omega) (by omega)).trans (by omega)
 have hx1 : Hid (1 + 6 * n - 1 = 6 * n) := hid (by omega)
 have hx2 : Hid (b.length - (1 + 6 * n) = 4) := hid (by omega)
 have q1 : (1 + 6 * n : Nat) ≤ c := by omega
 have q2 : (1 + 6 * n : Nat) ≤ b.length := by omega
 have q3 : ¬ (c = 1) := by omega
 have q4 : ¬ (c = 1 + 6 * n) := by omega
 have Hn := hid hn
 have Hlen := hid hlen
 have hbl : b.length ≤ 2000 := by omega
 clear hbody hlast hlast4 hf hn hnn hlen hl
 generalize b.getD 0 0 = x0 at *
 generalize recs b n = l at *
 generalize last4 b = t4 at *
 go_enter Tryz.func33, Tryz.ntmps33
 go_upto_region 3 with fail
 go_quiet (fail)
 rw [hx1.out, hx2.out]
 have b0 := below_drewN (Below.refl w.heap.size w) nq
 have hsz0 : w.heap.size ≤ (w.drewN nq).heap.size := Nat.le_refl _
 generalize w.drewN nq = W0 at *
 go_upto_region 5 with (go_at_call 69; refine (hrecs _ b0).mono ?_; rintro e w1 ⟨v1, rfl, hr1, hb1⟩)
 have hb1' : Below w.heap.size w w1 := b0.trans (hb1.mono hsz0)
 have hr1' := hr1.mono hsz0
 have hat1 := Row.at hr1
 have hWr : Calls Tryz.prog 31 #[v1] w1 fun e w' => e = .returned (.agg #[.int .i64 (wrongL l).1, .int .i64 (wrongL l).2]) ∧ Below w1.heap.size w1 w' := wrong_any l v1 w1 hat1
 by_cases hw : (wrongL l).1 = 0
 case neg =>
  have hE := hid (P1.out hw)
  have hw' : ((wrongL l).1 != 0) = true := by simpa using hw
  clear P1 P2 P3 hw
  generalize (wrongL l).1 = e1 at *
  generalize (wrongL l).2 = e2 at *
  go_upto_region 7 with (go_at_call 31; refine hWr.mono ?_; rintro e w2 ⟨rfl, hb2⟩)
  have hb3 : Below w.heap.size w (w2.alloc (.cells #[.int .i64 e1, .int .i64 e2] 47)) := bel_alloc (hb1'.trans (hb2.mono hb1'.size)) _
  have C0 : (w2.alloc (.cells #[.int .i64 e1, .int .i64 e2] 47)).cell? ⟨w2.heap.size, 0, none⟩ = some (.int .i64 e1) := by simp
  generalize w2.alloc (.cells #[.int .i64 e1, .int .i64 e2] 47) = W3 at *
  go_quiet (fail)
  go_wp2_with fail
  refine bodyPost_ret (v := .tuple #[.slice none 0 0, .int .i64 e1]) (by simp [results, Tryz.results33, go_sem]; try rfl) rfl ?_
  rw [hE.out]
  exact ⟨_, rfl, .nil, below_drewN hb3 _⟩
 case pos =>
  have hR := wrong_ok.1 hw
  have hwz := wrong_zero hw
  rw [hwz] at hWr
  have hTo : ∀ X : World, Below w1.heap.size w1 X → Calls Tryz.prog 70 #[v1] X fun e w' => e = .returned (.int .i64 (total l)) ∧ Below X.heap.size X w' := fun X hX => total_any l v1 X (hat1.below hX) hR
  have hSo : ∀ X : World, Below w1.heap.size w1 X → Calls Tryz.prog 72 #[v1, .func (.func 73) #[] #[]] X fun e w' => e = .returned (.bool (srtB l)) ∧ Below X.heap.size X w' := fun X hX => isSorted_any l v1 X (hat1.below hX) (by omega)
  have hRe : ∀ X : World, Below w1.heap.size w1 X → Calls Tryz.prog 71 #[.slice (some ⟨g, off + (1 + 6 * n), none⟩) 4 (c - (1 + 6 * n))] X fun e w' => e = .returned (.int .i64 t4) ∧ w' = X := fun X hX => hread X (hb1'.trans (hX.mono hb1'.size))
  have Q2 := hid (P2.out hw)
  have Q3 := hid (P3.out hw)
  clear P1 P2 P3 hw hwz hR
  unfold srtB at hSo
  generalize sameL l (sortR l) = t at *
  generalize total l = tt at *
  dsimp only at hWr
  go_upto_region 8 with (go_at_call 31; refine hWr.mono ?_; rintro e w2 ⟨rfl, hb2⟩)
  have hb3 : Below w1.heap.size w1 (w2.alloc (.cells #[.int .i64 0, .int .i64 0] 47)) := bel_alloc hb2 _
  generalize w2.alloc (.cells #[.int .i64 0, .int .i64 0] 47) = W3 at *
  by_cases ht : tt = t4
  ·have ht' : (tt != t4) = false := by simpa using ht
   cases t with
   | false =>
    have hE := hid (Q2.out (Or.inr rfl))
    clear Q2 Q3 ht
    go_wp2_with (first
     | (go_at_call 70; refine (hTo _ hb3).mono ?_; rintro e w4 ⟨rfl, hb4⟩; have hb5 : Below w1.heap.size w1 w4 := hb3.trans (hb4.mono hb3.size))
     | (go_at_call 71; refine (hRe _ hb5).mono ?_; rintro e w5 ⟨rfl, rfl⟩)
     | (go_at_call 72; refine (hSo _ hb5).mono ?_; rintro e w6 ⟨rfl, hb6⟩; have hb7 : Below w1.heap.size w1 w6 := hb5.trans (hb6.mono hb5.size)))
    refine bodyPost_ret (v := .tuple #[.slice none 0 0, .int .i64 8]) (by simp [results, Tryz.results33, go_sem]; try rfl) rfl ?_
    rw [hE.out]
    exact ⟨_, rfl, .nil, hb1'.trans (hb7.mono hb1'.size)⟩
   | true =>
    have hE := hid (Q3.out ht rfl)
    clear Q2 Q3 ht
    go_wp2_with (first
     | (go_at_call 70; refine (hTo _ hb3).mono ?_; rintro e w4 ⟨rfl, hb4⟩; have hb5 : Below w1.heap.size w1 w4 := hb3.trans (hb4.mono hb3.size))
     | (go_at_call 71; refine (hRe _ hb5).mono ?_; rintro e w5 ⟨rfl, rfl⟩)
     | (go_at_call 72; refine (hSo _ hb5).mono ?_; rintro e w6 ⟨rfl, hb6⟩; have hb7 : Below w1.heap.size w1 w6 := hb5.trans (hb6.mono hb5.size)))
    refine bodyPost_ret (v := .tuple #[v1, .int .i64 0]) (by simp [results, Tryz.results33, go_sem]; try rfl) rfl ?_
    rw [hE.out]
    exact ⟨_, rfl, hr1'.below hb7, hb1'.trans (hb7.mono hb1'.size)⟩
  ·have ht' : (tt != t4) = true := by simpa using ht
   have hE := hid (Q2.out (Or.inl ht))
   clear Q2 Q3 ht
   go_wp2_with (first
    | (go_at_call 70; refine (hTo _ hb3).mono ?_; rintro e w4 ⟨rfl, hb4⟩; have hb5 : Below w1.heap.size w1 w4 := hb3.trans (hb4.mono hb3.size))
    | (go_at_call 71; refine (hRe _ hb5).mono ?_; rintro e w5 ⟨rfl, rfl⟩))
   refine bodyPost_ret (v := .tuple #[.slice none 0 0, .int .i64 8]) (by simp [results, Tryz.results33, go_sem]; try rfl) rfl ?_
   rw [hE.out]
   exact ⟨_, rfl, .nil, hb1'.trans (hb5.mono hb1'.size)⟩
theorem same_any (L : List Rc) (v v2 : Value) (w : World) (h : At kR w v L) (h2 : At kR w v2 L) :
  Calls Tryz.prog 34 #[v, v2] w fun e w' => e = .returned (.bool true) ∧ Below w.heap.size w w' := by
 have hm := h.len
 unfold maxLen at hm
 obtain ⟨a, c, rfl, hl⟩ := h
 obtain ⟨a2, c2, rfl, hl2⟩ := h2
 go_enter Tryz.func34, Tryz.ntmps34
 go_wp2
 go_loopw [13] (fun i wr => ∃ k : Nat, k ≤ L.length ∧ i = .int .i64 k ∧ Below w.heap.size w wr) (fun i _ => L.length - (intOf i).toNat)
 case atStart => exact ⟨0, Nat.zero_le _, rfl, Below.refl _ _⟩
 case round =>
  obtain ⟨k, hk, rfl, hb⟩ := hrel
  generalize wr = W at *
  by_cases hlt : k < L.length
  ·have hlt' : (k : Int) < L.length := by omega
   obtain ⟨b, off, rfl, hbl, e1, e2, e3, e4⟩ := rc_cells (hl.below hb) hlt
   obtain ⟨b2, off2, rfl, hbl2, f1, f2, f3, f4⟩ := rc_cells (hl2.below hb) hlt
   generalize L.getD k zR = t at *
   go_wp2
   go_quiet (fail)
   go_wp2
   go_roundw
   case rel => exact ⟨k + 1, by omega, by go_num, below_drewN hb _⟩
   case measure => simp [intOf]; omega
  ·go_wp2
   go_ret
   exact ⟨rfl, hb⟩
theorem file_byt {l : List Rc} (h : Right l) : Byt (fileB l) := by
 have h1 := h.few
 have h2 := total_small h
 intro x hx
 unfold fileB at hx
 rw [List.mem_append, List.mem_cons] at hx
 rcases hx with (rfl | hx) | hx
 ·omega
 ·obtain ⟨r, hr, hx⟩ := List.mem_flatMap.1 hx
  have hr1 := h.each r (mem_sort.1 hr)
  have a := hr1.1
  have b := hr1.2
  unfold noKind at a
  unfold far at b
  unfold enc at hx
  simp at hx
  rcases hx with rfl | rfl | rfl | rfl | rfl | rfl <;> omega
 ·unfold tot4 at hx
  simp at hx
  rcases hx with rfl | rfl | rfl | rfl <;> omega
end Go.Proofs.YtofcnebekmjdoaaGreatDoor.Dy
