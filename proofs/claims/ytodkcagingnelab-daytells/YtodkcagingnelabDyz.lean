/- The walk of the document's Parse. -/
import Derived.Test.YtodkcagingnelabDyo
import Derived.Test.YtodkcagingnelabDyu
import Derived.Test.YtodkcagingnelabDyw
import Derived.Test.YtodkcagingnelabDyx
namespace Go.Proofs.Ytodkcagingnelab.Dy
open Go.RowKit Go.Proofs.Ytodkcagingnelab.Gn

theorem recs_succ (b : List Int) (n : Nat) : recs b (n + 1) = recs b n ++ [decAt b (1 + 6 * n)] := by
  unfold recs; rw [List.range_succ, List.map_append]; rfl
theorem dec_small {b : List Int} (h : Byt b) (p : Nat) : 0 ≤ (decAt b p).m ∧ (decAt b p).m ≤ 16777215 := by
  have h3 := h.at (p + 3)
  have h4 := h.at (p + 4)
  have h5 := h.at (p + 5)
  unfold decAt; dsimp only; omega
theorem recs_sum {b : List Int} (h : Byt b) : ∀ n, 0 ≤ sumBy Rc.m (recs b n) ∧ sumBy Rc.m (recs b n) ≤ 16777215 * n
  | 0 => by simp [recs, sumBy]
  | n + 1 => by
    have h1 := recs_sum h n
    have h2 := dec_small h (1 + 6 * n)
    rw [recs_succ, sumBy_append]
    simp only [sumBy]
    omega
theorem alloc_heap_old {w : World} {o : Obj} {g p : Nat} (hg : g < w.heap.size) : (w.alloc o).cell? ⟨g, p, none⟩ = w.cell? ⟨g, p, none⟩ := World.cell?_alloc_past _ _ _ hg

set_option maxRecDepth 10000 in
set_option maxHeartbeats 6000000 in
theorem refParse_any (b : List Int) (v : Value) (w : World) (h : AtC kB w v b) (hb : Byt b) : Calls Try.prog 50 #[v] w (AnswersP w (parseR b)) := by
  have hm := h.at.len
  unfold maxLen at hm
  obtain ⟨a, c, rfl, hl, hcap⟩ := h
  by_cases h0 : b.length = 0
  · have hE : Hid (parseR b = ([], 2)) := hid (parse_form (Or.inl h0))
    have h0' : ((b.length : Int) == 0) = true := by rw [beq_iff_eq]; omega
    go_enter Try.func50, Try.ntmps50
    go_wp2
    refine bodyPost_ret (v := .tuple #[.slice none 0 0, .int .i64 2]) (by simp [results, Try.results50, go_sem]; try rfl) rfl ?_
    rw [hE.out]
    exact ⟨_, rfl, .nil, Below.refl _ _⟩
  have h0' : ((b.length : Int) == 0) = false := by rw [beq_eq_false_iff_ne]; omega
  have h0i : (0 : Int) < b.length := by omega
  obtain ⟨g, off, rfl, hg, f0⟩ := byte_cell hl (i := 0) (by omega)
  rw [Nat.add_zero] at f0
  have y0 := hb.at 0
  have z0 : IntKind.i64.wrap (b.getD 0 0) = b.getD 0 0 := wrap64' (by omega) (by omega)
  by_cases hf : noForm b
  · have hE := hid (parse_form hf)
    have hf' : ((b.length : Int) != 1 + 6 * b.getD 0 0 + 4) = true := by unfold noForm at hf; rw [bne_iff_ne]; omega
    clear hf h0
    generalize b.getD 0 0 = x0 at *
    go_enter Try.func50, Try.ntmps50
    go_wp2
    refine bodyPost_ret (v := .tuple #[.slice none 0 0, .int .i64 2]) (by simp [results, Try.results50, go_sem]; try rfl) rfl ?_
    rw [hE.out]
    exact ⟨_, rfl, .nil, Below.refl _ _⟩
  obtain ⟨n, hn⟩ : ∃ n : Nat, b.getD 0 0 = n := ⟨(b.getD 0 0).toNat, by omega⟩
  have hlen : b.length = 5 + 6 * n := by unfold noForm at hf; omega
  have hf' : ((b.length : Int) != 1 + 6 * b.getD 0 0 + 4) = false := by unfold noForm at hf; rw [bne_eq_false_iff_eq]; omega
  have hnn : (b.getD 0 0).toNat = n := by omega
  have hn255 : n ≤ 255 := by omega
  have P1 := hid (parse_wrong hf)
  have P2 := hid (parse_fit hf)
  have P3 := hid (parse_ok hf)
  rw [hnn] at P1 P2 P3
  have Hn := hid hn
  have Hlen := hid hlen
  have hcell : ∀ (X : World) (i : Nat), Below w.heap.size w X → i < b.length → X.cell? ⟨g, off + i, none⟩ = some (.int .u8 (b.getD i 0)) := fun X i hX hi => by
    obtain ⟨g', off', hq, -, hc⟩ := byte_cell (hl.below hX) (i := i) hi
    cases hq; exact hc
  clear hf hnn hn hlen h0
  obtain ⟨x0, hx0⟩ : ∃ x0, Hid (x0 = b.getD 0 0) := ⟨_, rfl⟩
  rw [← hx0.out] at f0 z0 hf' y0
  have hx0n : Hid (x0 = n) := hid (hx0.out.trans Hn.out)
  have hbl : b.length ≤ 2000 := by have := Hlen.out; omega
  go_enter Try.func50, Try.ntmps50
  go_wp2_with fail
  go_loopw [6, 4, 5] (fun i u s wr => ∃ k : Nat, k ≤ n ∧ i = .int .i64 k ∧ s = .int .i64 (sumBy Rc.m (recs b k)) ∧ Row kR 87 wr w.heap.size u (recs b k) ∧ Below w.heap.size w wr) (fun i _ _ _ => n - (intOf i).toNat)
  case atStart => exact ⟨0, Nat.zero_le _, rfl, rfl, .nil, Below.refl _ _⟩
  case round =>
    obtain ⟨k, hk, rfl, rfl, hr, hbw⟩ := hrel
    have f0w : wr.cell? ⟨g, off, none⟩ = some (.int .u8 x0) := by have := hcell wr 0 hbw (by omega); rw [Nat.add_zero, ← hx0.out] at this; exact this
    have hgw : g < wr.heap.size := Nat.lt_of_lt_of_le hg hbw.size
    have hsm := recs_sum hb k
    by_cases hlt : k < n
    · have hlt' : (k : Int) < x0 := by have := hx0n.out; omega
      have hce : ∀ X : World, Below w.heap.size w X → X.cell? ⟨g, off + (1 + 6 * k), none⟩ = some (.int .u8 (b.getD (1 + 6 * k) 0)) ∧ X.cell? ⟨g, off + (1 + 6 * k) + 1, none⟩ = some (.int .u8 (b.getD (1 + 6 * k + 1) 0)) ∧ X.cell? ⟨g, off + (1 + 6 * k) + 2, none⟩ = some (.int .u8 (b.getD (1 + 6 * k + 2) 0)) ∧
          X.cell? ⟨g, off + (1 + 6 * k) + 3, none⟩ = some (.int .u8 (b.getD (1 + 6 * k + 3) 0)) ∧ X.cell? ⟨g, off + (1 + 6 * k) + 4, none⟩ = some (.int .u8 (b.getD (1 + 6 * k + 4) 0)) ∧ X.cell? ⟨g, off + (1 + 6 * k) + 5, none⟩ = some (.int .u8 (b.getD (1 + 6 * k + 5) 0)) := fun X hX => by
        have hL := Hlen.out
        exact ⟨hcell X (1 + 6 * k) hX (by omega), hcell X (1 + 6 * k + 1) hX (by omega), hcell X (1 + 6 * k + 2) hX (by omega), hcell X (1 + 6 * k + 3) hX (by omega), hcell X (1 + 6 * k + 4) hX (by omega), hcell X (1 + 6 * k + 5) hX (by omega)⟩
      have q1 : 1 + 6 * k ≤ c := by have := Hlen.out; omega
      have q1' : (1 + 6 * (k : Int)) ≤ c := by omega
      have q2 : (1 + 6 * (k : Int)) ≤ b.length := by have := Hlen.out; omega
      have q3 : ¬ (c = 1 + 6 * k) := by have := Hlen.out; omega
      have m6 : 6 ≤ b.length - (1 + 6 * k) := by have := Hlen.out; omega
      have hdec : Hid (decAt b (1 + 6 * k) = ⟨b.getD (1 + 6 * k) 0, b.getD (1 + 6 * k + 1) 0, b.getD (1 + 6 * k + 2) 0, 65536 * b.getD (1 + 6 * k + 3) 0 + 256 * b.getD (1 + 6 * k + 4) 0 + b.getD (1 + 6 * k + 5) 0⟩) := hid rfl
      have hsucc : Hid (recs b (k + 1) = recs b k ++ [decAt b (1 + 6 * k)]) := hid (recs_succ b k)
      have hlr : (recs b k).length ≤ 255 := by rw [recs_length]; omega
      have hy0 := hb.at (1 + 6 * k)
      have hy1 := hb.at (1 + 6 * k + 1)
      have hy2 := hb.at (1 + 6 * k + 2)
      have hy3 := hb.at (1 + 6 * k + 3)
      have hy4 := hb.at (1 + 6 * k + 4)
      have hy5 := hb.at (1 + 6 * k + 5)
      have hT : Hid (sumBy Rc.m (recs b (k + 1)) = sumBy Rc.m (recs b k) + (decAt b (1 + 6 * k)).m) := by rw [hsucc.out, sumBy_append]; exact hid (by simp [sumBy])
      have hs1 : 0 ≤ sumBy Rc.m (recs b k) ∧ sumBy Rc.m (recs b k) ≤ 5000000000 := by omega
      clear hsm
      rw [hdec.out] at hsucc hT
      obtain ⟨C, hC⟩ : ∃ C, Hid (C = recs b k) := ⟨_, rfl⟩
      rw [← hC.out] at hr hsucc hT hlr hs1 ⊢
      generalize sumBy Rc.m C = t at *
      go_upto_region 9 with fail
      clear hdec q1 q1' q2 q3
      generalize b.length - (1 + 6 * k) = m at *
      generalize c - (1 + 6 * k) = c' at *
      generalize off + (1 + 6 * k) = o at *
      generalize b.getD (1 + 6 * k) 0 = y0 at *
      generalize b.getD (1 + 6 * k + 1) 0 = y1 at *
      generalize b.getD (1 + 6 * k + 2) 0 = y2 at *
      generalize b.getD (1 + 6 * k + 3) 0 = y3 at *
      generalize b.getD (1 + 6 * k + 4) 0 = y4 at *
      generalize b.getD (1 + 6 * k + 5) 0 = y5 at *
      have w0 : IntKind.i64.wrap y0 = y0 := wrap64' (by omega) (by omega)
      have w1 : IntKind.i64.wrap y1 = y1 := wrap64' (by omega) (by omega)
      have w2 : IntKind.i64.wrap y2 = y2 := wrap64' (by omega) (by omega)
      have w3 : IntKind.i64.wrap y3 = y3 := wrap64' (by omega) (by omega)
      have w4 : IntKind.i64.wrap y4 = y4 := wrap64' (by omega) (by omega)
      have w5 : IntKind.i64.wrap y5 = y5 := wrap64' (by omega) (by omega)
      have w6 : IntKind.i64.wrap (65536 * y3) = 65536 * y3 := wrap64' (by omega) (by omega)
      have w7 : IntKind.i64.wrap (256 * y4) = 256 * y4 := wrap64' (by omega) (by omega)
      have w8 : IntKind.i64.wrap (65536 * y3 + 256 * y4) = 65536 * y3 + 256 * y4 := wrap64' (by omega) (by omega)
      have w9 : IntKind.i64.wrap (65536 * y3 + 256 * y4 + y5) = 65536 * y3 + 256 * y4 + y5 := wrap64' (by omega) (by omega)
      have i1 : ¬ ((m : Int) ≤ 1) := by omega
      have i2 : ¬ ((m : Int) ≤ 2) := by omega
      have i3 : ¬ ((m : Int) ≤ 3) := by omega
      have i4 : ¬ ((m : Int) ≤ 4) := by omega
      have i5 : ¬ ((m : Int) ≤ 5) := by omega
      have m0 : 0 < m := by omega
      have m1 : 1 < m := by omega
      have m2 : 2 < m := by omega
      have m3 : 3 < m := by omega
      have m4 : 4 < m := by omega
      have m5 : 5 < m := by omega
      go_cut [8] from 39 to 67 (fun q wc => ∃ Z, q = .pointer (some ⟨Z, 0, none⟩) ∧ wc.heap[Z]? = some (rob ⟨y0, y1, y2, 65536 * y3 + 256 * y4 + y5⟩) ∧ Row kR 87 wc w.heap.size u4 C ∧ u4.ownBlock ≠ some Z ∧ Below w.heap.size w wc)
      case first =>
        refine wp_region_held_drew (S := (fun X => X.cell? ⟨g, o, none⟩ = some (.int .u8 y0) ∧ X.cell? ⟨g, o + 1, none⟩ = some (.int .u8 y1) ∧ X.cell? ⟨g, o + 2, none⟩ = some (.int .u8 y2) ∧ X.cell? ⟨g, o + 3, none⟩ = some (.int .u8 y3) ∧ X.cell? ⟨g, o + 4, none⟩ = some (.int .u8 y4) ∧ X.cell? ⟨g, o + 5, none⟩ = some (.int .u8 y5))) (by kernel_rfl) (hce _ hbw.drew) (fun hS => ?_)
        refine wpAnyH_take (i := 0) (v := .slice (some ⟨g, o, none⟩) m c') rfl (by kernel_rfl) (by kernel_rfl) (by kernel_rfl) (fun _ _ _ h => h) (Or.inl ⟨by kernel_rfl, ?_⟩) hS ?_
        · intro w' _; go_simp
        refine wpAnyH_take (i := 1) (v := .pointer (some ⟨g, o, none⟩)) rfl (by kernel_rfl) (by kernel_rfl) (by kernel_rfl) (fun _ _ _ h => h) (Or.inl ⟨by kernel_rfl, ?_⟩) hS ?_
        · intro w' _; go_simp
        refine wpAnyH_take (i := 2) (v := .int .u8 y0) rfl (by kernel_rfl) (by kernel_rfl) (by kernel_rfl) (fun _ _ _ h => h) (Or.inl ⟨by kernel_rfl, ?_⟩) hS ?_
        · intro w' hS'; obtain ⟨C0, C1, C2, C3, C4, C5⟩ := hS'; go_simp
        refine wpAnyH_take (i := 3) (v := .int .i64 y0) rfl (by kernel_rfl) (by kernel_rfl) (by kernel_rfl) (fun _ _ _ h => h) (Or.inl ⟨by kernel_rfl, ?_⟩) hS ?_
        · intro w' _; go_simp
        try simp only [List.getElem_toArray, List.getElem_cons_zero, List.getElem_cons_succ, Act.put, List.setIfInBounds_toArray, List.set_cons_zero, List.set_cons_succ]
        refine wpAnyH_take (i := 4) (v := .slice (some ⟨g, o, none⟩) m c') rfl (by kernel_rfl) (by kernel_rfl) (by kernel_rfl) (fun _ _ _ h => h) (Or.inl ⟨by kernel_rfl, ?_⟩) hS ?_
        · intro w' _; go_simp
        refine wpAnyH_take (i := 5) (v := .pointer (some ⟨g, o + 1, none⟩)) rfl (by kernel_rfl) (by kernel_rfl) (by kernel_rfl) (fun _ _ _ h => h) (Or.inl ⟨by kernel_rfl, ?_⟩) hS ?_
        · intro w' _; go_simp
        refine wpAnyH_take (i := 6) (v := .int .u8 y1) rfl (by kernel_rfl) (by kernel_rfl) (by kernel_rfl) (fun _ _ _ h => h) (Or.inl ⟨by kernel_rfl, ?_⟩) hS ?_
        · intro w' hS'; obtain ⟨C0, C1, C2, C3, C4, C5⟩ := hS'; go_simp
        refine wpAnyH_take (i := 7) (v := .int .i64 y1) rfl (by kernel_rfl) (by kernel_rfl) (by kernel_rfl) (fun _ _ _ h => h) (Or.inl ⟨by kernel_rfl, ?_⟩) hS ?_
        · intro w' _; go_simp
        try simp only [List.getElem_toArray, List.getElem_cons_zero, List.getElem_cons_succ, Act.put, List.setIfInBounds_toArray, List.set_cons_zero, List.set_cons_succ]
        refine wpAnyH_take (i := 8) (v := .slice (some ⟨g, o, none⟩) m c') rfl (by kernel_rfl) (by kernel_rfl) (by kernel_rfl) (fun _ _ _ h => h) (Or.inl ⟨by kernel_rfl, ?_⟩) hS ?_
        · intro w' _; go_simp
        refine wpAnyH_take (i := 9) (v := .pointer (some ⟨g, o + 2, none⟩)) rfl (by kernel_rfl) (by kernel_rfl) (by kernel_rfl) (fun _ _ _ h => h) (Or.inl ⟨by kernel_rfl, ?_⟩) hS ?_
        · intro w' _; go_simp
        refine wpAnyH_take (i := 10) (v := .int .u8 y2) rfl (by kernel_rfl) (by kernel_rfl) (by kernel_rfl) (fun _ _ _ h => h) (Or.inl ⟨by kernel_rfl, ?_⟩) hS ?_
        · intro w' hS'; obtain ⟨C0, C1, C2, C3, C4, C5⟩ := hS'; go_simp
        refine wpAnyH_take (i := 11) (v := .int .i64 y2) rfl (by kernel_rfl) (by kernel_rfl) (by kernel_rfl) (fun _ _ _ h => h) (Or.inl ⟨by kernel_rfl, ?_⟩) hS ?_
        · intro w' _; go_simp
        try simp only [List.getElem_toArray, List.getElem_cons_zero, List.getElem_cons_succ, Act.put, List.setIfInBounds_toArray, List.set_cons_zero, List.set_cons_succ]
        refine wpAnyH_take (i := 12) (v := .slice (some ⟨g, o, none⟩) m c') rfl (by kernel_rfl) (by kernel_rfl) (by kernel_rfl) (fun _ _ _ h => h) (Or.inl ⟨by kernel_rfl, ?_⟩) hS ?_
        · intro w' _; go_simp
        refine wpAnyH_take (i := 13) (v := .pointer (some ⟨g, o + 3, none⟩)) rfl (by kernel_rfl) (by kernel_rfl) (by kernel_rfl) (fun _ _ _ h => h) (Or.inl ⟨by kernel_rfl, ?_⟩) hS ?_
        · intro w' _; go_simp
        refine wpAnyH_take (i := 14) (v := .int .u8 y3) rfl (by kernel_rfl) (by kernel_rfl) (by kernel_rfl) (fun _ _ _ h => h) (Or.inl ⟨by kernel_rfl, ?_⟩) hS ?_
        · intro w' hS'; obtain ⟨C0, C1, C2, C3, C4, C5⟩ := hS'; go_simp
        refine wpAnyH_take (i := 15) (v := .int .i64 y3) rfl (by kernel_rfl) (by kernel_rfl) (by kernel_rfl) (fun _ _ _ h => h) (Or.inl ⟨by kernel_rfl, ?_⟩) hS ?_
        · intro w' _; go_simp
        try simp only [List.getElem_toArray, List.getElem_cons_zero, List.getElem_cons_succ, Act.put, List.setIfInBounds_toArray, List.set_cons_zero, List.set_cons_succ]
        refine wpAnyH_take (i := 16) (v := .int .i64 (65536 * y3)) rfl (by kernel_rfl) (by kernel_rfl) (by kernel_rfl) (fun _ _ _ h => h) (Or.inl ⟨by kernel_rfl, ?_⟩) hS ?_
        · intro w' _; go_simp
        refine wpAnyH_take (i := 17) (v := .slice (some ⟨g, o, none⟩) m c') rfl (by kernel_rfl) (by kernel_rfl) (by kernel_rfl) (fun _ _ _ h => h) (Or.inl ⟨by kernel_rfl, ?_⟩) hS ?_
        · intro w' _; go_simp
        refine wpAnyH_take (i := 18) (v := .pointer (some ⟨g, o + 4, none⟩)) rfl (by kernel_rfl) (by kernel_rfl) (by kernel_rfl) (fun _ _ _ h => h) (Or.inl ⟨by kernel_rfl, ?_⟩) hS ?_
        · intro w' _; go_simp
        refine wpAnyH_take (i := 19) (v := .int .u8 y4) rfl (by kernel_rfl) (by kernel_rfl) (by kernel_rfl) (fun _ _ _ h => h) (Or.inl ⟨by kernel_rfl, ?_⟩) hS ?_
        · intro w' hS'; obtain ⟨C0, C1, C2, C3, C4, C5⟩ := hS'; go_simp
        try simp only [List.getElem_toArray, List.getElem_cons_zero, List.getElem_cons_succ, Act.put, List.setIfInBounds_toArray, List.set_cons_zero, List.set_cons_succ]
        refine wpAnyH_take (i := 20) (v := .int .i64 y4) rfl (by kernel_rfl) (by kernel_rfl) (by kernel_rfl) (fun _ _ _ h => h) (Or.inl ⟨by kernel_rfl, ?_⟩) hS ?_
        · intro w' _; go_simp
        refine wpAnyH_take (i := 21) (v := .int .i64 (256 * y4)) rfl (by kernel_rfl) (by kernel_rfl) (by kernel_rfl) (fun _ _ _ h => h) (Or.inl ⟨by kernel_rfl, ?_⟩) hS ?_
        · intro w' _; go_simp
        refine wpAnyH_take (i := 22) (v := .int .i64 (65536 * y3 + 256 * y4)) rfl (by kernel_rfl) (by kernel_rfl) (by kernel_rfl) (fun _ _ _ h => h) (Or.inl ⟨by kernel_rfl, ?_⟩) hS ?_
        · intro w' _; go_simp
        refine wpAnyH_take (i := 23) (v := .slice (some ⟨g, o, none⟩) m c') rfl (by kernel_rfl) (by kernel_rfl) (by kernel_rfl) (fun _ _ _ h => h) (Or.inl ⟨by kernel_rfl, ?_⟩) hS ?_
        · intro w' _; go_simp
        try simp only [List.getElem_toArray, List.getElem_cons_zero, List.getElem_cons_succ, Act.put, List.setIfInBounds_toArray, List.set_cons_zero, List.set_cons_succ]
        refine wpAnyH_take (i := 24) (v := .pointer (some ⟨g, o + 5, none⟩)) rfl (by kernel_rfl) (by kernel_rfl) (by kernel_rfl) (fun _ _ _ h => h) (Or.inl ⟨by kernel_rfl, ?_⟩) hS ?_
        · intro w' _; go_simp
        refine wpAnyH_take (i := 25) (v := .int .u8 y5) rfl (by kernel_rfl) (by kernel_rfl) (by kernel_rfl) (fun _ _ _ h => h) (Or.inl ⟨by kernel_rfl, ?_⟩) hS ?_
        · intro w' hS'; obtain ⟨C0, C1, C2, C3, C4, C5⟩ := hS'; go_simp
        refine wpAnyH_take (i := 26) (v := .int .i64 y5) rfl (by kernel_rfl) (by kernel_rfl) (by kernel_rfl) (fun _ _ _ h => h) (Or.inl ⟨by kernel_rfl, ?_⟩) hS ?_
        · intro w' _; go_simp
        refine wpAnyH_take (i := 27) (v := .int .i64 (65536 * y3 + 256 * y4 + y5)) rfl (by kernel_rfl) (by kernel_rfl) (by kernel_rfl) (fun _ _ _ h => h) (Or.inl ⟨by kernel_rfl, ?_⟩) hS ?_
        · intro w' _; go_simp
        try simp only [List.getElem_toArray, List.getElem_cons_zero, List.getElem_cons_succ, Act.put, List.setIfInBounds_toArray, List.set_cons_zero, List.set_cons_succ]
        refine wpAnyH_take (i := 28) (v := .agg #[.int .i64 y0, .int .i64 y1, .int .i64 y2, .int .i64 (65536 * y3 + 256 * y4 + y5)]) rfl (by kernel_rfl) (by kernel_rfl) (by kernel_rfl) (fun _ _ _ h => h) (Or.inl ⟨by kernel_rfl, ?_⟩) hS ?_
        · intro w' _; go_simp
        try simp only [List.getElem_toArray, List.getElem_cons_zero, List.getElem_cons_succ, Act.put, List.setIfInBounds_toArray, List.set_cons_zero, List.set_cons_succ]
        refine wpAnyH_ready (rs := [29]) (by kernel_rfl) (by simp) ?_
        refine AllReadyH.cons rfl (fun K hK => ?_) AllReadyH.nil
        go_simp
        refine hK.out _ _ (hce _ (bel_alloc hbw.drew _)) (fun hS => ?_)
        clear hK K
        try simp only [List.getElem_toArray, List.getElem_cons_zero, List.getElem_cons_succ, Act.put, List.setIfInBounds_toArray, List.set_cons_zero, List.set_cons_succ]
        refine wpAnyH_ready (rs := [30]) (by kernel_rfl) (by simp) ?_
        refine AllReadyH.cons rfl (fun K hK => ?_) AllReadyH.nil
        go_simp
        have hbz : Below w.heap.size w (wr.alloc (.cells #[.int .i64 y0, .int .i64 y1, .int .i64 y2, .int .i64 (65536 * y3 + 256 * y4 + y5)] 87)).drew := (bel_alloc hbw _).drew
        refine hK.out _ _ (hce _ hbz) (fun hS => ?_)
        clear hK K
        refine wpAnyH_done (by kernel_rfl) ?_ _
        go_wp2_with fail
        go_meet
        exact ⟨_, rfl, heap_alloc_at _ _ _ rfl, (hr.alloc _).drew, fun h => by have := (hr.block_lt _ h).2; omega, hbz⟩
      case rest =>
        obtain ⟨Z, rfl, hZ, hrc, hnz, hbc⟩ := hcut
        clear hr hbw hce
        generalize wc = W1 at *
        obtain ⟨r0, r1, r2, r3⟩ := rob_cells4 hZ
        dsimp only at r0 r1 r2 r3
        have hZl := lt_of_block hZ
        have hone : Lies kR (W1.alloc (.cells #[.int .i64 y0, .int .i64 y1, .int .i64 y2, .int .i64 (65536 * y3 + 256 * y4 + y5)] 87)) (some ⟨W1.heap.size, 0, none⟩) 1 [⟨y0, y1, y2, 65536 * y3 + 256 * y4 + y5⟩] := by
          refine lies_one (heap_alloc_at _ _ _ rfl) ?_ 1
          rfl
        have hra := hrc.alloc (.cells #[.int .i64 y0, .int .i64 y1, .int .i64 y2, .int .i64 (65536 * y3 + 256 * y4 + y5)] 87)
        have hba := bel_alloc hbc (.cells #[.int .i64 y0, .int .i64 y1, .int .i64 y2, .int .i64 (65536 * y3 + 256 * y4 + y5)] 87)
        have hZa : (W1.alloc (.cells #[.int .i64 y0, .int .i64 y1, .int .i64 y2, .int .i64 (65536 * y3 + 256 * y4 + y5)] 87)).heap[Z]? = some (rob ⟨y0, y1, y2, 65536 * y3 + 256 * y4 + y5⟩) := (heap_alloc_old _ _ hZl).trans hZ
        have hc3 : C.length + [(⟨y0, y1, y2, 65536 * y3 + 256 * y4 + y5⟩ : Rc)].length ≤ maxLen := by simp [maxLen]; omega
        have hc4 : (C.length + [(⟨y0, y1, y2, 65536 * y3 + 256 * y4 + y5⟩ : Rc)].length) * 32 ≤ 140737488355328 := by simp; omega
        have hc5 : w.heap.size ≤ (W1.alloc (.cells #[.int .i64 y0, .int .i64 y1, .int .i64 y2, .int .i64 (65536 * y3 + 256 * y4 + y5)] 87)).heap.size := hba.size
        go_upto_region 11 with (at_builtin; refine wpList_append elemR _ rfl _ _ rfl w.heap.size _ C rfl hra (some ⟨W1.heap.size, 0, none⟩) 1 1 [⟨y0, y1, y2, 65536 * y3 + 256 * y4 + y5⟩] rfl rfl hone hc3 hc4 hc5 ?_; intro v2 w2 hrow2 hg2 hat2 _)
        have hZ2 : w2.heap[Z]? = some (rob ⟨y0, y1, y2, 65536 * y3 + 256 * y4 + y5⟩) := (hg2.block _ (by simp; omega) (fun h => hnz h.symm)).trans hZa
        obtain ⟨p0, p1, p2, p3⟩ := rob_cells4 hZ2
        dsimp only at p0 p1 p2 p3
        have hb2 : Below w.heap.size w w2 := below_grown hba hg2 hra (Nat.le_refl _) hc5
        have w10 : IntKind.i64.wrap (t + (65536 * y3 + 256 * y4 + y5)) = t + (65536 * y3 + 256 * y4 + y5) := wrap64' (by omega) (by omega)
        have hT2 : Hid (t + (65536 * y3 + 256 * y4 + y5) = sumBy Rc.m (recs b (k + 1))) := hid hT.out.symm
        clear r0 r1 r2 r3 hra hone hba hZa hg2 hat2 hrc hbc hT
        go_wp2_with fail
        go_roundw
        case rel => exact ⟨k + 1, by omega, by go_num, by rw [hT2.out], by rw [hsucc.out]; exact hrow2, hb2⟩
        case measure => simp [intOf]; omega
    · have hke : k = n := by omega
      subst hke
      have hlt' : ¬ ((k : Int) < x0) := by have := hx0n.out; omega
      have hlr : (recs b k).length ≤ 255 := by rw [recs_length]; omega
      have hT : Hid (total (recs b k) = sumBy Rc.m (recs b k)) := hid rfl
      have hs1 : 0 ≤ sumBy Rc.m (recs b k) ∧ sumBy Rc.m (recs b k) ≤ 5000000000 := by omega
      have hL4 : Hid (last4 b = 16777216 * b.getD (b.length - 4) 0 + 65536 * b.getD (b.length - 4 + 1) 0 + 256 * b.getD (b.length - 4 + 2) 0 + b.getD (b.length - 4 + 3) 0) := by
        have hL := Hlen.out
        unfold last4
        rw [show b.length - 3 = b.length - 4 + 1 by omega, show b.length - 2 = b.length - 4 + 2 by omega, show b.length - 1 = b.length - 4 + 3 by omega]; exact hid rfl
      have hce : ∀ X : World, Below w.heap.size w X → X.cell? ⟨g, off + (b.length - 4), none⟩ = some (.int .u8 (b.getD (b.length - 4) 0)) ∧ X.cell? ⟨g, off + (b.length - 4) + 1, none⟩ = some (.int .u8 (b.getD (b.length - 4 + 1) 0)) ∧ X.cell? ⟨g, off + (b.length - 4) + 2, none⟩ = some (.int .u8 (b.getD (b.length - 4 + 2) 0)) ∧
          X.cell? ⟨g, off + (b.length - 4) + 3, none⟩ = some (.int .u8 (b.getD (b.length - 4 + 3) 0)) := fun X hX => by
        have hL := Hlen.out
        exact ⟨hcell X (b.length - 4) hX (by omega), hcell X (b.length - 4 + 1) hX (by omega), hcell X (b.length - 4 + 2) hX (by omega), hcell X (b.length - 4 + 3) hX (by omega)⟩
      have hy0 := hb.at (b.length - 4)
      have hy1 := hb.at (b.length - 4 + 1)
      have hy2 := hb.at (b.length - 4 + 2)
      have hy3 := hb.at (b.length - 4 + 3)
      have hw4 : IntKind.i64.wrap ((b.length : Int) - 4) = ((b.length - 4 : Nat) : Int) := by have hL := Hlen.out; exact (wrap64' (by omega) (by omega)).trans (by omega)
      have q1 : ((b.length - 4 : Nat) : Int) ≤ c := by omega
      have q2 : ((b.length - 4 : Nat) : Int) ≤ b.length := by omega
      have q3 : ¬ (c = b.length - 4) := by have := Hlen.out; omega
      have q4 : Hid (b.length - (b.length - 4) = 4) := by have := Hlen.out; exact hid (by omega)
      have hat := Row.at hr
      clear hsm
      rw [hT.out] at P2 P3
      generalize recs b k = l at *
      generalize sumBy Rc.m l = tt at *
      have hWr : Calls Try.prog 43 #[u4] wr fun e w' => e = .returned (.agg #[.int .i64 (wrongL l).1, .int .i64 (wrongL l).2]) ∧ Below wr.heap.size wr w' := refWrong_any l u4 wr hat
      by_cases hw : (wrongL l).1 = 0
      case neg =>
        have hE := hid (P1.out hw)
        have hw' : ((wrongL l).1 != 0) = true := by simpa using hw
        clear P1 P2 P3 hw
        generalize (wrongL l).1 = e1 at *
        generalize (wrongL l).2 = e2 at *
        go_upto_region 14 with (go_at_call 43; refine hWr.mono ?_; rintro e w2 ⟨rfl, hb2⟩)
        have hb3 : Below w.heap.size w (w2.alloc (.cells #[.int .i64 e1, .int .i64 e2] 44)) := bel_alloc (hbw.trans (hb2.mono hbw.size)) _
        have C0 : (w2.alloc (.cells #[.int .i64 e1, .int .i64 e2] 44)).cell? ⟨w2.heap.size, 0, none⟩ = some (.int .i64 e1) := by simp
        generalize w2.alloc (.cells #[.int .i64 e1, .int .i64 e2] 44) = W3 at *
        go_quiet (fail)
        go_wp2_with fail
        refine bodyPost_ret (v := .tuple #[.slice none 0 0, .int .i64 e1]) (by simp [results, Try.results50, go_sem]; try rfl) rfl ?_
        rw [hE.out]
        exact ⟨_, rfl, .nil, below_drewN hb3 _⟩
      case pos =>
        have hwz := wrong_zero hw
        rw [hwz] at hWr
        have Q2 := hid (P2.out hw)
        have Q3 := hid (P3.out hw)
        clear P1 P2 P3 hw hwz
        dsimp only at hWr
        go_upto_region 15 with (go_at_call 43; refine hWr.mono ?_; rintro e w2 ⟨rfl, hb2⟩)
        have hbX : Below w.heap.size w (w2.alloc (.cells #[.int .i64 0, .int .i64 0] 44)) := bel_alloc (hbw.trans (hb2.mono hbw.size)) _
        have hrX := (hr.below hb2).alloc (.cells #[.int .i64 0, .int .i64 0] 44)
        generalize w2.alloc (.cells #[.int .i64 0, .int .i64 0] 44) = X at *
        go_upto_region 16 with fail
        rw [q4.out]
        rw [hL4.out] at Q2 Q3
        clear q1 q2 q3 hw4
        generalize off + (b.length - 4) = o at *
        generalize c - (b.length - 4) = c' at *
        generalize b.getD (b.length - 4) 0 = y0 at *
        generalize b.getD (b.length - 4 + 1) 0 = y1 at *
        generalize b.getD (b.length - 4 + 2) 0 = y2 at *
        generalize b.getD (b.length - 4 + 3) 0 = y3 at *
        have w0 : IntKind.i64.wrap y0 = y0 := wrap64' (by omega) (by omega)
        have w1 : IntKind.i64.wrap y1 = y1 := wrap64' (by omega) (by omega)
        have w2 : IntKind.i64.wrap y2 = y2 := wrap64' (by omega) (by omega)
        have w3 : IntKind.i64.wrap y3 = y3 := wrap64' (by omega) (by omega)
        have w4 : IntKind.i64.wrap (16777216 * y0) = 16777216 * y0 := wrap64' (by omega) (by omega)
        have w5 : IntKind.i64.wrap (65536 * y1) = 65536 * y1 := wrap64' (by omega) (by omega)
        have w6 : IntKind.i64.wrap (16777216 * y0 + 65536 * y1) = 16777216 * y0 + 65536 * y1 := wrap64' (by omega) (by omega)
        have w7 : IntKind.i64.wrap (256 * y2) = 256 * y2 := wrap64' (by omega) (by omega)
        have w8 : IntKind.i64.wrap (16777216 * y0 + 65536 * y1 + 256 * y2) = 16777216 * y0 + 65536 * y1 + 256 * y2 := wrap64' (by omega) (by omega)
        have w9 : IntKind.i64.wrap (16777216 * y0 + 65536 * y1 + 256 * y2 + y3) = 16777216 * y0 + 65536 * y1 + 256 * y2 + y3 := wrap64' (by omega) (by omega)
        obtain ⟨vl, hvl⟩ : ∃ vl, Hid (vl = u4) := ⟨_, rfl⟩
        have hN : l.length * 32 ≤ 140737488355328 := by omega
        have hatd : At kR X.drew u4 l := (Row.at hrX).drew
        obtain ⟨sm, hsm⟩ : ∃ sm, Hid (sm = sameL l (sortR l)) := ⟨_, rfl⟩
        have hSa : ∀ (Y : World) (p q : Value), At kR Y p l → At kR Y q (sortR l) → Calls Try.prog 44 #[p, q] Y fun e w' => e = .returned (.bool sm) ∧ Below Y.heap.size Y w' := fun Y p q hp hq => by have := sameAny l (sortR l) p q Y hp hq; rw [← hsm.out] at this; exact this
        rw [← hsm.out] at Q2 Q3
        obtain ⟨cd, hcd⟩ : ∃ cd : Bool, Hid (cd = ((tt != 16777216 * y0 + 65536 * y1 + 256 * y2 + y3) || !sm)) := ⟨_, rfl⟩
        go_cut [118] from 88 to 117 (fun q wc => q = .bool cd ∧ Below w.heap.size w wc ∧ Row kR 87 wc w.heap.size u4 l)
        case first =>
          by_cases ht : tt = 16777216 * y0 + 65536 * y1 + 256 * y2 + y3
          · have ht' : (tt != 16777216 * y0 + 65536 * y1 + 256 * y2 + y3) = false := by simpa using ht
            have hcond : Hid (cd = !sm) := hid (by rw [hcd.out, ht']; rfl)
            clear ht Q2 Q3 hcd
            refine wp_region_held_drew (S := (fun X => X.cell? ⟨g, o, none⟩ = some (.int .u8 y0) ∧ X.cell? ⟨g, o + 1, none⟩ = some (.int .u8 y1) ∧ X.cell? ⟨g, o + 2, none⟩ = some (.int .u8 y2) ∧ X.cell? ⟨g, o + 3, none⟩ = some (.int .u8 y3))) (by kernel_rfl) (hce _ hbX.drew) (fun hS => ?_)
            refine wpAnyH_take (i := 0) (v := .int .i64 tt) rfl (by kernel_rfl) (by kernel_rfl) (by kernel_rfl) (fun _ _ _ h => h) (Or.inl ⟨by kernel_rfl, ?_⟩) hS ?_
            · intro w' _; go_simp
            refine wpAnyH_take (i := 1) (v := .slice (some ⟨g, o, none⟩) 4 c') rfl (by kernel_rfl) (by kernel_rfl) (by kernel_rfl) (fun _ _ _ h => h) (Or.inl ⟨by kernel_rfl, ?_⟩) hS ?_
            · intro w' _; go_simp
            refine wpAnyH_take (i := 2) (v := .pointer (some ⟨g, o, none⟩)) rfl (by kernel_rfl) (by kernel_rfl) (by kernel_rfl) (fun _ _ _ h => h) (Or.inl ⟨by kernel_rfl, ?_⟩) hS ?_
            · intro w' _; go_simp
            refine wpAnyH_take (i := 3) (v := .int .u8 y0) rfl (by kernel_rfl) (by kernel_rfl) (by kernel_rfl) (fun _ _ _ h => h) (Or.inl ⟨by kernel_rfl, ?_⟩) hS ?_
            · intro w' hS'; obtain ⟨C0, C1, C2, C3⟩ := hS'; go_simp
            try simp only [List.getElem_toArray, List.getElem_cons_zero, List.getElem_cons_succ, Act.put, List.setIfInBounds_toArray, List.set_cons_zero, List.set_cons_succ]
            refine wpAnyH_take (i := 4) (v := .int .i64 y0) rfl (by kernel_rfl) (by kernel_rfl) (by kernel_rfl) (fun _ _ _ h => h) (Or.inl ⟨by kernel_rfl, ?_⟩) hS ?_
            · intro w' _; go_simp
            refine wpAnyH_take (i := 5) (v := .int .i64 (16777216 * y0)) rfl (by kernel_rfl) (by kernel_rfl) (by kernel_rfl) (fun _ _ _ h => h) (Or.inl ⟨by kernel_rfl, ?_⟩) hS ?_
            · intro w' _; go_simp
            refine wpAnyH_take (i := 6) (v := .slice (some ⟨g, o, none⟩) 4 c') rfl (by kernel_rfl) (by kernel_rfl) (by kernel_rfl) (fun _ _ _ h => h) (Or.inl ⟨by kernel_rfl, ?_⟩) hS ?_
            · intro w' _; go_simp
            refine wpAnyH_take (i := 7) (v := .pointer (some ⟨g, o + 1, none⟩)) rfl (by kernel_rfl) (by kernel_rfl) (by kernel_rfl) (fun _ _ _ h => h) (Or.inl ⟨by kernel_rfl, ?_⟩) hS ?_
            · intro w' _; go_simp
            try simp only [List.getElem_toArray, List.getElem_cons_zero, List.getElem_cons_succ, Act.put, List.setIfInBounds_toArray, List.set_cons_zero, List.set_cons_succ]
            refine wpAnyH_take (i := 8) (v := .int .u8 y1) rfl (by kernel_rfl) (by kernel_rfl) (by kernel_rfl) (fun _ _ _ h => h) (Or.inl ⟨by kernel_rfl, ?_⟩) hS ?_
            · intro w' hS'; obtain ⟨C0, C1, C2, C3⟩ := hS'; go_simp
            refine wpAnyH_take (i := 9) (v := .int .i64 y1) rfl (by kernel_rfl) (by kernel_rfl) (by kernel_rfl) (fun _ _ _ h => h) (Or.inl ⟨by kernel_rfl, ?_⟩) hS ?_
            · intro w' _; go_simp
            refine wpAnyH_take (i := 10) (v := .int .i64 (65536 * y1)) rfl (by kernel_rfl) (by kernel_rfl) (by kernel_rfl) (fun _ _ _ h => h) (Or.inl ⟨by kernel_rfl, ?_⟩) hS ?_
            · intro w' _; go_simp
            refine wpAnyH_take (i := 11) (v := .int .i64 (16777216 * y0 + 65536 * y1)) rfl (by kernel_rfl) (by kernel_rfl) (by kernel_rfl) (fun _ _ _ h => h) (Or.inl ⟨by kernel_rfl, ?_⟩) hS ?_
            · intro w' _; go_simp
            try simp only [List.getElem_toArray, List.getElem_cons_zero, List.getElem_cons_succ, Act.put, List.setIfInBounds_toArray, List.set_cons_zero, List.set_cons_succ]
            refine wpAnyH_take (i := 12) (v := .slice (some ⟨g, o, none⟩) 4 c') rfl (by kernel_rfl) (by kernel_rfl) (by kernel_rfl) (fun _ _ _ h => h) (Or.inl ⟨by kernel_rfl, ?_⟩) hS ?_
            · intro w' _; go_simp
            refine wpAnyH_take (i := 13) (v := .pointer (some ⟨g, o + 2, none⟩)) rfl (by kernel_rfl) (by kernel_rfl) (by kernel_rfl) (fun _ _ _ h => h) (Or.inl ⟨by kernel_rfl, ?_⟩) hS ?_
            · intro w' _; go_simp
            refine wpAnyH_take (i := 14) (v := .int .u8 y2) rfl (by kernel_rfl) (by kernel_rfl) (by kernel_rfl) (fun _ _ _ h => h) (Or.inl ⟨by kernel_rfl, ?_⟩) hS ?_
            · intro w' hS'; obtain ⟨C0, C1, C2, C3⟩ := hS'; go_simp
            refine wpAnyH_take (i := 15) (v := .int .i64 y2) rfl (by kernel_rfl) (by kernel_rfl) (by kernel_rfl) (fun _ _ _ h => h) (Or.inl ⟨by kernel_rfl, ?_⟩) hS ?_
            · intro w' _; go_simp
            try simp only [List.getElem_toArray, List.getElem_cons_zero, List.getElem_cons_succ, Act.put, List.setIfInBounds_toArray, List.set_cons_zero, List.set_cons_succ]
            refine wpAnyH_take (i := 16) (v := .int .i64 (256 * y2)) rfl (by kernel_rfl) (by kernel_rfl) (by kernel_rfl) (fun _ _ _ h => h) (Or.inl ⟨by kernel_rfl, ?_⟩) hS ?_
            · intro w' _; go_simp
            refine wpAnyH_take (i := 17) (v := .int .i64 (16777216 * y0 + 65536 * y1 + 256 * y2)) rfl (by kernel_rfl) (by kernel_rfl) (by kernel_rfl) (fun _ _ _ h => h) (Or.inl ⟨by kernel_rfl, ?_⟩) hS ?_
            · intro w' _; go_simp
            refine wpAnyH_take (i := 18) (v := .slice (some ⟨g, o, none⟩) 4 c') rfl (by kernel_rfl) (by kernel_rfl) (by kernel_rfl) (fun _ _ _ h => h) (Or.inl ⟨by kernel_rfl, ?_⟩) hS ?_
            · intro w' _; go_simp
            refine wpAnyH_take (i := 19) (v := .pointer (some ⟨g, o + 3, none⟩)) rfl (by kernel_rfl) (by kernel_rfl) (by kernel_rfl) (fun _ _ _ h => h) (Or.inl ⟨by kernel_rfl, ?_⟩) hS ?_
            · intro w' _; go_simp
            try simp only [List.getElem_toArray, List.getElem_cons_zero, List.getElem_cons_succ, Act.put, List.setIfInBounds_toArray, List.set_cons_zero, List.set_cons_succ]
            refine wpAnyH_take (i := 20) (v := .int .u8 y3) rfl (by kernel_rfl) (by kernel_rfl) (by kernel_rfl) (fun _ _ _ h => h) (Or.inl ⟨by kernel_rfl, ?_⟩) hS ?_
            · intro w' hS'; obtain ⟨C0, C1, C2, C3⟩ := hS'; go_simp
            refine wpAnyH_take (i := 21) (v := .int .i64 y3) rfl (by kernel_rfl) (by kernel_rfl) (by kernel_rfl) (fun _ _ _ h => h) (Or.inl ⟨by kernel_rfl, ?_⟩) hS ?_
            · intro w' _; go_simp
            refine wpAnyH_take (i := 22) (v := .int .i64 (16777216 * y0 + 65536 * y1 + 256 * y2 + y3)) rfl (by kernel_rfl) (by kernel_rfl) (by kernel_rfl) (fun _ _ _ h => h) (Or.inl ⟨by kernel_rfl, ?_⟩) hS ?_
            · intro w' _; go_simp
            refine wpAnyH_take (i := 23) (v := .bool false) rfl (by kernel_rfl) (by kernel_rfl) (by kernel_rfl) (fun _ _ _ h => h) (Or.inl ⟨by kernel_rfl, ?_⟩) hS ?_
            · intro w' _; go_simp
            refine wpAnyH_take (i := 24) (v := .bool false) rfl (by kernel_rfl) (by kernel_rfl) (by kernel_rfl) (fun _ _ _ h => h) (Or.inl ⟨by kernel_rfl, ?_⟩) hS ?_
            · intro w' _; go_simp
            try simp only [List.getElem_toArray, List.getElem_cons_zero, List.getElem_cons_succ, Act.put, List.setIfInBounds_toArray, List.set_cons_zero, List.set_cons_succ]
            refine wpAnyH_take (i := 25) (v := u4) rfl (by kernel_rfl) (by kernel_rfl) (by kernel_rfl) (fun _ _ _ h => h) (Or.inl ⟨by kernel_rfl, ?_⟩) hS ?_
            · intro w' _; go_simp
            refine wpAnyH_take (i := 26) (v := u4) rfl (by kernel_rfl) (by kernel_rfl) (by kernel_rfl) (fun _ _ _ h => h) (Or.inl ⟨by kernel_rfl, ?_⟩) hS ?_
            · intro w' _; go_simp
            try simp only [List.getElem_toArray, List.getElem_cons_zero, List.getElem_cons_succ, Act.put, List.setIfInBounds_toArray, List.set_cons_zero, List.set_cons_succ]
            refine wpAnyH_ready (rs := [27]) (by kernel_rfl) (by simp) ?_
            refine AllReadyH.cons rfl (fun K hK => ?_) AllReadyH.nil
            go_simp
            refine (refSorted_any l _ _ hatd hN).mono ?_
            rintro e w7 ⟨v7, rfl, hr7, hb7⟩
            have hbY : Below w.heap.size w w7 := hbX.drew.trans (hb7.mono hbX.drew.size)
            have hat7 := Row.at hr7
            have hatl := hatd.below hb7
            have hrY := hrX.drew.below hb7
            go_simp
            refine hK.out _ _ (hce _ hbY) (fun hS => ?_)
            clear hK K
            try simp only [List.getElem_toArray, List.getElem_cons_zero, List.getElem_cons_succ, Act.put, List.setIfInBounds_toArray, List.set_cons_zero, List.set_cons_succ]
            refine wpAnyH_ready (rs := [28]) (by kernel_rfl) (by simp) ?_
            refine AllReadyH.cons rfl (fun K hK => ?_) AllReadyH.nil
            go_simp
            refine (hSa _ _ _ hatl hat7).mono ?_
            rintro e w8 ⟨rfl, hb8⟩
            have hbZ : Below w.heap.size w w8 := hbY.trans (hb8.mono hbY.size)
            have hrZ := hrY.below hb8
            go_simp
            refine hK.out _ _ (hce _ hbZ) (fun hS => ?_)
            clear hK K
            refine wpAnyH_take (i := 29) (v := .bool (!sm)) rfl (by kernel_rfl) (by kernel_rfl) (by kernel_rfl) (fun _ _ _ h => h) (Or.inl ⟨by kernel_rfl, ?_⟩) hS ?_
            · intro w' _; go_simp
            refine wpAnyH_take (i := 30) (v := .bool (!sm)) rfl (by kernel_rfl) (by kernel_rfl) (by kernel_rfl) (fun _ _ _ h => h) (Or.inl ⟨by kernel_rfl, ?_⟩) hS ?_
            · intro w' _; go_simp
            try simp only [List.getElem_toArray, List.getElem_cons_zero, List.getElem_cons_succ, Act.put, List.setIfInBounds_toArray, List.set_cons_zero, List.set_cons_succ]
            refine wpAnyH_done (by kernel_rfl) ?_ _
            go_wp2_with fail
            go_meet
            exact ⟨by rw [hcond.out], hbZ, hrZ⟩
          · have ht' : (tt != 16777216 * y0 + 65536 * y1 + 256 * y2 + y3) = true := by simpa using ht
            have hcond : Hid (cd = true) := hid (by rw [hcd.out, ht']; rfl)
            clear ht Q2 Q3 hcd
            refine wp_region_held_drew (S := (fun X => X.cell? ⟨g, o, none⟩ = some (.int .u8 y0) ∧ X.cell? ⟨g, o + 1, none⟩ = some (.int .u8 y1) ∧ X.cell? ⟨g, o + 2, none⟩ = some (.int .u8 y2) ∧ X.cell? ⟨g, o + 3, none⟩ = some (.int .u8 y3))) (by kernel_rfl) (hce _ hbX.drew) (fun hS => ?_)
            refine wpAnyH_take (i := 0) (v := .int .i64 tt) rfl (by kernel_rfl) (by kernel_rfl) (by kernel_rfl) (fun _ _ _ h => h) (Or.inl ⟨by kernel_rfl, ?_⟩) hS ?_
            · intro w' _; go_simp
            refine wpAnyH_take (i := 1) (v := .slice (some ⟨g, o, none⟩) 4 c') rfl (by kernel_rfl) (by kernel_rfl) (by kernel_rfl) (fun _ _ _ h => h) (Or.inl ⟨by kernel_rfl, ?_⟩) hS ?_
            · intro w' _; go_simp
            refine wpAnyH_take (i := 2) (v := .pointer (some ⟨g, o, none⟩)) rfl (by kernel_rfl) (by kernel_rfl) (by kernel_rfl) (fun _ _ _ h => h) (Or.inl ⟨by kernel_rfl, ?_⟩) hS ?_
            · intro w' _; go_simp
            refine wpAnyH_take (i := 3) (v := .int .u8 y0) rfl (by kernel_rfl) (by kernel_rfl) (by kernel_rfl) (fun _ _ _ h => h) (Or.inl ⟨by kernel_rfl, ?_⟩) hS ?_
            · intro w' hS'; obtain ⟨C0, C1, C2, C3⟩ := hS'; go_simp
            try simp only [List.getElem_toArray, List.getElem_cons_zero, List.getElem_cons_succ, Act.put, List.setIfInBounds_toArray, List.set_cons_zero, List.set_cons_succ]
            refine wpAnyH_take (i := 4) (v := .int .i64 y0) rfl (by kernel_rfl) (by kernel_rfl) (by kernel_rfl) (fun _ _ _ h => h) (Or.inl ⟨by kernel_rfl, ?_⟩) hS ?_
            · intro w' _; go_simp
            refine wpAnyH_take (i := 5) (v := .int .i64 (16777216 * y0)) rfl (by kernel_rfl) (by kernel_rfl) (by kernel_rfl) (fun _ _ _ h => h) (Or.inl ⟨by kernel_rfl, ?_⟩) hS ?_
            · intro w' _; go_simp
            refine wpAnyH_take (i := 6) (v := .slice (some ⟨g, o, none⟩) 4 c') rfl (by kernel_rfl) (by kernel_rfl) (by kernel_rfl) (fun _ _ _ h => h) (Or.inl ⟨by kernel_rfl, ?_⟩) hS ?_
            · intro w' _; go_simp
            refine wpAnyH_take (i := 7) (v := .pointer (some ⟨g, o + 1, none⟩)) rfl (by kernel_rfl) (by kernel_rfl) (by kernel_rfl) (fun _ _ _ h => h) (Or.inl ⟨by kernel_rfl, ?_⟩) hS ?_
            · intro w' _; go_simp
            try simp only [List.getElem_toArray, List.getElem_cons_zero, List.getElem_cons_succ, Act.put, List.setIfInBounds_toArray, List.set_cons_zero, List.set_cons_succ]
            refine wpAnyH_take (i := 8) (v := .int .u8 y1) rfl (by kernel_rfl) (by kernel_rfl) (by kernel_rfl) (fun _ _ _ h => h) (Or.inl ⟨by kernel_rfl, ?_⟩) hS ?_
            · intro w' hS'; obtain ⟨C0, C1, C2, C3⟩ := hS'; go_simp
            refine wpAnyH_take (i := 9) (v := .int .i64 y1) rfl (by kernel_rfl) (by kernel_rfl) (by kernel_rfl) (fun _ _ _ h => h) (Or.inl ⟨by kernel_rfl, ?_⟩) hS ?_
            · intro w' _; go_simp
            refine wpAnyH_take (i := 10) (v := .int .i64 (65536 * y1)) rfl (by kernel_rfl) (by kernel_rfl) (by kernel_rfl) (fun _ _ _ h => h) (Or.inl ⟨by kernel_rfl, ?_⟩) hS ?_
            · intro w' _; go_simp
            refine wpAnyH_take (i := 11) (v := .int .i64 (16777216 * y0 + 65536 * y1)) rfl (by kernel_rfl) (by kernel_rfl) (by kernel_rfl) (fun _ _ _ h => h) (Or.inl ⟨by kernel_rfl, ?_⟩) hS ?_
            · intro w' _; go_simp
            try simp only [List.getElem_toArray, List.getElem_cons_zero, List.getElem_cons_succ, Act.put, List.setIfInBounds_toArray, List.set_cons_zero, List.set_cons_succ]
            refine wpAnyH_take (i := 12) (v := .slice (some ⟨g, o, none⟩) 4 c') rfl (by kernel_rfl) (by kernel_rfl) (by kernel_rfl) (fun _ _ _ h => h) (Or.inl ⟨by kernel_rfl, ?_⟩) hS ?_
            · intro w' _; go_simp
            refine wpAnyH_take (i := 13) (v := .pointer (some ⟨g, o + 2, none⟩)) rfl (by kernel_rfl) (by kernel_rfl) (by kernel_rfl) (fun _ _ _ h => h) (Or.inl ⟨by kernel_rfl, ?_⟩) hS ?_
            · intro w' _; go_simp
            refine wpAnyH_take (i := 14) (v := .int .u8 y2) rfl (by kernel_rfl) (by kernel_rfl) (by kernel_rfl) (fun _ _ _ h => h) (Or.inl ⟨by kernel_rfl, ?_⟩) hS ?_
            · intro w' hS'; obtain ⟨C0, C1, C2, C3⟩ := hS'; go_simp
            refine wpAnyH_take (i := 15) (v := .int .i64 y2) rfl (by kernel_rfl) (by kernel_rfl) (by kernel_rfl) (fun _ _ _ h => h) (Or.inl ⟨by kernel_rfl, ?_⟩) hS ?_
            · intro w' _; go_simp
            try simp only [List.getElem_toArray, List.getElem_cons_zero, List.getElem_cons_succ, Act.put, List.setIfInBounds_toArray, List.set_cons_zero, List.set_cons_succ]
            refine wpAnyH_take (i := 16) (v := .int .i64 (256 * y2)) rfl (by kernel_rfl) (by kernel_rfl) (by kernel_rfl) (fun _ _ _ h => h) (Or.inl ⟨by kernel_rfl, ?_⟩) hS ?_
            · intro w' _; go_simp
            refine wpAnyH_take (i := 17) (v := .int .i64 (16777216 * y0 + 65536 * y1 + 256 * y2)) rfl (by kernel_rfl) (by kernel_rfl) (by kernel_rfl) (fun _ _ _ h => h) (Or.inl ⟨by kernel_rfl, ?_⟩) hS ?_
            · intro w' _; go_simp
            refine wpAnyH_take (i := 18) (v := .slice (some ⟨g, o, none⟩) 4 c') rfl (by kernel_rfl) (by kernel_rfl) (by kernel_rfl) (fun _ _ _ h => h) (Or.inl ⟨by kernel_rfl, ?_⟩) hS ?_
            · intro w' _; go_simp
            refine wpAnyH_take (i := 19) (v := .pointer (some ⟨g, o + 3, none⟩)) rfl (by kernel_rfl) (by kernel_rfl) (by kernel_rfl) (fun _ _ _ h => h) (Or.inl ⟨by kernel_rfl, ?_⟩) hS ?_
            · intro w' _; go_simp
            try simp only [List.getElem_toArray, List.getElem_cons_zero, List.getElem_cons_succ, Act.put, List.setIfInBounds_toArray, List.set_cons_zero, List.set_cons_succ]
            refine wpAnyH_take (i := 20) (v := .int .u8 y3) rfl (by kernel_rfl) (by kernel_rfl) (by kernel_rfl) (fun _ _ _ h => h) (Or.inl ⟨by kernel_rfl, ?_⟩) hS ?_
            · intro w' hS'; obtain ⟨C0, C1, C2, C3⟩ := hS'; go_simp
            refine wpAnyH_take (i := 21) (v := .int .i64 y3) rfl (by kernel_rfl) (by kernel_rfl) (by kernel_rfl) (fun _ _ _ h => h) (Or.inl ⟨by kernel_rfl, ?_⟩) hS ?_
            · intro w' _; go_simp
            refine wpAnyH_take (i := 22) (v := .int .i64 (16777216 * y0 + 65536 * y1 + 256 * y2 + y3)) rfl (by kernel_rfl) (by kernel_rfl) (by kernel_rfl) (fun _ _ _ h => h) (Or.inl ⟨by kernel_rfl, ?_⟩) hS ?_
            · intro w' _; go_simp
            refine wpAnyH_take (i := 23) (v := .bool true) rfl (by kernel_rfl) (by kernel_rfl) (by kernel_rfl) (fun _ _ _ h => h) (Or.inl ⟨by kernel_rfl, ?_⟩) hS ?_
            · intro w' _; go_simp
            refine wpAnyH_take (i := 24) (v := .bool true) rfl (by kernel_rfl) (by kernel_rfl) (by kernel_rfl) (fun _ _ _ h => h) (Or.inl ⟨by kernel_rfl, ?_⟩) hS ?_
            · intro w' _; go_simp
            try simp only [List.getElem_toArray, List.getElem_cons_zero, List.getElem_cons_succ, Act.put, List.setIfInBounds_toArray, List.set_cons_zero, List.set_cons_succ]
            refine wpAnyH_take (i := 25) (v := undef) rfl (by kernel_rfl) (by kernel_rfl) (by kernel_rfl) (fun _ _ _ h => h) (Or.inr ⟨by kernel_rfl, rfl⟩) hS ?_
            refine wpAnyH_take (i := 26) (v := undef) rfl (by kernel_rfl) (by kernel_rfl) (by kernel_rfl) (fun _ _ _ h => h) (Or.inr ⟨by kernel_rfl, rfl⟩) hS ?_
            refine wpAnyH_take (i := 27) (v := undef) rfl (by kernel_rfl) (by kernel_rfl) (by kernel_rfl) (fun _ _ _ h => h) (Or.inr ⟨by kernel_rfl, rfl⟩) hS ?_
            refine wpAnyH_take (i := 28) (v := undef) rfl (by kernel_rfl) (by kernel_rfl) (by kernel_rfl) (fun _ _ _ h => h) (Or.inr ⟨by kernel_rfl, rfl⟩) hS ?_
            refine wpAnyH_take (i := 29) (v := undef) rfl (by kernel_rfl) (by kernel_rfl) (by kernel_rfl) (fun _ _ _ h => h) (Or.inr ⟨by kernel_rfl, rfl⟩) hS ?_
            refine wpAnyH_take (i := 30) (v := .bool true) rfl (by kernel_rfl) (by kernel_rfl) (by kernel_rfl) (fun _ _ _ h => h) (Or.inl ⟨by kernel_rfl, ?_⟩) hS ?_
            · intro w' _; go_simp
            try simp only [List.getElem_toArray, List.getElem_cons_zero, List.getElem_cons_succ, Act.put, List.setIfInBounds_toArray, List.set_cons_zero, List.set_cons_succ]
            refine wpAnyH_done (by kernel_rfl) ?_ _
            go_wp2_with fail
            go_meet
            exact ⟨by rw [hcond.out], hbX.drew, hrX.drew⟩
        case rest =>
          obtain ⟨rfl, hbZ, hrZ⟩ := hcut
          cases hcc : cd with
          | true =>
            have hE : Hid (parseR b = ([], 8)) := by
              have h1 := hcd.out
              rw [hcc] at h1
              by_cases ht : tt = 16777216 * y0 + 65536 * y1 + 256 * y2 + y3
              · have hs0 : sm = false := by
                  cases sm with
                  | false => rfl
                  | true => rw [ht] at h1; simp at h1
                exact hid (Q2.out (Or.inr hs0))
              · exact hid (Q2.out (Or.inl ht))
            clear Q2 Q3 hcd hcc
            go_wp2_with fail
            refine bodyPost_ret (v := .tuple #[.slice none 0 0, .int .i64 8]) (by simp [results, Try.results50, go_sem]; try rfl) rfl ?_
            rw [hE.out]
            exact ⟨_, rfl, .nil, hbZ⟩
          | false =>
            have hE : Hid (parseR b = (l, 0)) := by
              have h1 := hcd.out
              rw [hcc] at h1
              have h2 : tt = 16777216 * y0 + 65536 * y1 + 256 * y2 + y3 := by
                have := (Bool.or_eq_false_iff.1 h1.symm).1
                simpa using this
              have h3 : sm = true := by
                have := (Bool.or_eq_false_iff.1 h1.symm).2
                simpa using this
              exact hid (Q3.out h2 h3)
            clear Q2 Q3 hcd hcc
            go_wp2_with fail
            refine bodyPost_ret (v := .tuple #[u4, .int .i64 0]) (by simp [results, Try.results50, go_sem]; try rfl) rfl ?_
            rw [hE.out]
            exact ⟨_, rfl, hrZ, hbZ⟩
end Go.Proofs.Ytodkcagingnelab.Dy
