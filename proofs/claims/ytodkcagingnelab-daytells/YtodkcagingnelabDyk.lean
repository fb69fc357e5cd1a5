/- The walks of write and read. -/
import Derived.Test.YtodkcagingnelabDyj
namespace Go.Proofs.Ytodkcagingnelab.Dy
open Go.RowKit Go.Proofs.Ytodkcagingnelab.Gn

theorem infoB : (Try.prog.info? 5).map (fun i => (i.zero, i.size, i.bytes)) = some (some (.int .u8 0), 1, 1) := by kernel_rfl
theorem elemB : Elem Try.prog kB 75 5 1 := by
  obtain ⟨i, h1, h2, h3, h4⟩ := info_parts infoB
  exact ⟨Try.underlying75, i, _, h1, h2, h3, h4, rfl⟩

/-- The i-th byte of a number. -/
def dig (n : Int) : Nat → Int
  | 0 => n % 256
  | 1 => n / 256 % 256
  | 2 => n / 65536 % 256
  | 3 => n / 16777216 % 256
  | _ => 0
def digs (n : Int) : Nat → List Int
  | 0 => []
  | k + 1 => dig n k :: digs n k
theorem digs_length (n : Int) : ∀ k, (digs n k).length = k
  | 0 => rfl
  | k + 1 => by simp [digs, digs_length n k]

theorem gby_trans {w w1 w2 : World} {r r' : Option Nat} (h : w.grownBy w1 r) (h' : w1.grownBy w2 r') (hr : ∀ k, r' = some k → r = some k ∨ w.heap.size ≤ k) : w.grownBy w2 r :=
  ⟨h'.os.trans h.os, h'.tape.trans h.tape, h'.output.trans h.output, Nat.le_trans h.size h'.size, fun k hk hn => (h'.block k (Nat.lt_of_lt_of_le hk h.size) (fun h => by
    rcases hr k h.symm with h1 | h1
    · exact hn h1.symm
    · omega)).trans (h.block k hk hn)⟩
theorem gby_alloc (w : World) (o : Obj) (r : Option Nat) : w.grownBy (w.alloc o) r :=
  ⟨rfl, rfl, rfl, by simp, fun k hk _ => heap_alloc_old _ _ hk⟩

/-- What write answers. -/
def AnswersW (w : World) (base : Nat) (v : Value) (B : List Int) (e : Ending) (w' : World) : Prop :=
  ∃ v', e = .returned v' ∧ Row kB 5 w' base v' B ∧ w.grownBy w' v.ownBlock ∧ ∀ k, v'.ownBlock = some k → v.ownBlock = some k ∨ w.heap.size ≤ k

set_option maxHeartbeats 2000000 in
theorem write_any (B : List Int) (n : Int) (s : Nat) (base : Nat) (v : Value) (w : World) (h : Row kB 5 w base v B) (hs : s ≤ 4) (hB : B.length ≤ 1000000) (hbase : base ≤ w.heap.size) :
    Calls Try.prog 69 #[v, .int .i64 n, .int .i64 s] w (AnswersW w base v (B ++ digs n s)) := by
  go_enter Try.func69, Try.ntmps69
  go_wp2
  go_loopw [0, 7] (fun u i wr => ∃ (k : Nat) (C : List Int), k ≤ s ∧ i = .int .i64 ((k : Int) - 1) ∧ Hid (C ++ digs n k = B ++ digs n s) ∧ Row kB 5 wr base u C ∧ C.length ≤ 1000000 + 4 - k ∧ w.grownBy wr v.ownBlock ∧ ∀ k, u.ownBlock = some k → v.ownBlock = some k ∨ w.heap.size ≤ k) (fun _ i _ => ((intOf i) + 1).toNat)
  case atStart => exact ⟨s, B, Nat.le_refl _, by go_num, rfl, h, by omega, World.grownBy.refl _ _, fun k hk => Or.inl hk⟩
  case round =>
    obtain ⟨k, C, hk, rfl, hC, hrow, hCl, hg, hat⟩ := hrel
    cases k with
    | zero =>
      have hE : Hid (C = B ++ digs n s) := by have := hC.out; simp [digs] at this; exact this
      go_wp2
      go_ret
      exact ⟨_, rfl, by rw [← hE.out]; exact hrow, hg, hat⟩
    | succ k =>
      have hE : Hid ((C ++ [dig n k]) ++ digs n k = B ++ digs n s) := by have := hC.out; simp [digs] at this; exact hid (by simpa using this)
      obtain rfl | rfl | rfl | rfl : k = 0 ∨ k = 1 ∨ k = 2 ∨ k = 3 := by omega
      all_goals
        go_wp2_with (first
          | (at_builtin; refine wpList_append elemB _ rfl _ _ rfl base _ C rfl (hrow.alloc _) (some ⟨wr.heap.size, 0, none⟩) 1 1 [dig n 0] rfl rfl (lies_one (heap_alloc_at _ _ _ rfl) rfl 1) ?c3 ?c4 ?c5 ?_)
          | (at_builtin; refine wpList_append elemB _ rfl _ _ rfl base _ C rfl (hrow.alloc _) (some ⟨wr.heap.size, 0, none⟩) 1 1 [dig n 1] rfl rfl (lies_one (heap_alloc_at _ _ _ rfl) rfl 1) ?c3 ?c4 ?c5 ?_)
          | (at_builtin; refine wpList_append elemB _ rfl _ _ rfl base _ C rfl (hrow.alloc _) (some ⟨wr.heap.size, 0, none⟩) 1 1 [dig n 2] rfl rfl (lies_one (heap_alloc_at _ _ _ rfl) rfl 1) ?c3 ?c4 ?c5 ?_)
          | (at_builtin; refine wpList_append elemB _ rfl _ _ rfl base _ C rfl (hrow.alloc _) (some ⟨wr.heap.size, 0, none⟩) 1 1 [dig n 3] rfl rfl (lies_one (heap_alloc_at _ _ _ rfl) rfl 1) ?c3 ?c4 ?c5 ?_))
        case c3 => simp [maxLen]; omega
        case c4 => simp; omega
        case c5 => have := hg.size; simp; omega
        intro v2 w2 hrow2 hg2 hat2 _
        have hg3 : w.grownBy w2 v.ownBlock := gby_trans (gby_trans hg (gby_alloc _ _ none) (fun k h => by cases h)) hg2 hat
        have hat3 : ∀ k, v2.ownBlock = some k → v.ownBlock = some k ∨ w.heap.size ≤ k := fun k hk => by
          rcases hat2 k hk with h1 | h1
          · exact hat k h1
          · exact Or.inr (by have := hg.size; have h2 : (wr.alloc (.cells #[.int .u8 0] 5)).heap.size = wr.heap.size + 1 := by simp
                             try simp at h1
                             omega)
        clear hg2 hat2 hg hat hrow hC
        go_wp2_with fail
        go_roundw
        case rel => exact ⟨_, _, by omega, by go_num, hE, hrow2, by simp; omega, hg3, hat3⟩
        case measure => simp [intOf]

theorem or8 {n x : Int} (h0 : 0 ≤ n) (h1 : n ≤ 4294967296) (h2 : 0 ≤ x) (h3 : x < 256) : bits .or .i64 (n * 256) x = n * 256 + x := by
  obtain ⟨m, rfl⟩ := Int.eq_ofNat_of_zero_le h0
  obtain ⟨y, rfl⟩ := Int.eq_ofNat_of_zero_le h2
  have e : (m * 256) ||| y = m * 256 + y := by
    have := Nat.two_pow_add_eq_or_of_lt (i := 8) (b := y) (by omega) m
    rw [show 2 ^ 8 * m = m * 256 by omega] at this
    exact this.symm
  have ha : (BitVec.ofInt 64 ((m : Int) * 256)).toNat = m * 256 := by rw [BitVec.toNat_ofInt]; omega
  have hb : (BitVec.ofInt 64 (y : Int)).toNat = y := by rw [BitVec.toNat_ofInt]; omega
  show IntKind.i64.wrap (((BitVec.ofInt 64 ((m : Int) * 256) ||| BitVec.ofInt 64 (y : Int)).toNat : Nat) : Int) = _
  rw [BitVec.toNat_or, ha, hb, e]
  exact (wrap64' (by omega) (by omega)).trans (by omega)

set_option maxHeartbeats 2000000 in
theorem read_any (b : List Int) (v : Value) (w : World) (h : At kB w v b) (hb : Byt b) (hl : b.length ≤ 4) :
    Calls Try.prog 76 #[v] w fun e w' => e = .returned (.int .i64 (b.foldl (fun n x => n * 256 + x) 0)) ∧ w' = w := by
  obtain ⟨a, c, rfl, hlie⟩ := h
  go_enter Try.func76, Try.ntmps76
  go_wp2
  go_loopw [8, 3] (fun i s wr => ∃ (k : Nat) (x : Int), k ≤ b.length ∧ i = .int .i64 k ∧ s = .int .i64 x ∧ Hid (x = (b.take k).foldl (fun n x => n * 256 + x) 0) ∧ 0 ≤ x ∧ x + 1 ≤ (256 : Int) ^ k ∧ wr = w) (fun i _ _ => b.length - (intOf i).toNat)
  case atStart => exact ⟨0, 0, Nat.zero_le _, rfl, rfl, by simp [Hid], by omega, by simp, rfl⟩
  case round =>
    obtain ⟨k, x, hk, rfl, rfl, hx, hx0, hx1, rfl⟩ := hrel
    by_cases hlt : k < b.length
    · have hlt' : (k : Int) < b.length := by omega
      obtain ⟨g, off, rfl, hg, e1⟩ := byte_cell hlie hlt
      have hy := hb.at k
      have hyb : Hid (b[k]?.toList = [b.getD k 0]) := hid (by simp [List.getD, hlt])
      generalize b.getD k 0 = y at *
      have hx2 : x ≤ 16777216 := by
        obtain rfl | rfl | rfl | rfl : k = 0 ∨ k = 1 ∨ k = 2 ∨ k = 3 := by omega
        all_goals (simp at hx1; omega)
      have hor := or8 (n := x) (x := y) hx0 (by omega) hy.1 (by omega)
      have Hx1 := hid hx1
      clear hx1
      have hstep : Hid (x * 256 + y = (b.take (k + 1)).foldl (fun n x => n * 256 + x) 0) := by
        rw [List.take_add_one, List.foldl_append, ← hx.out, hyb.out]; exact hid rfl
      go_wp2_with fail
      refine ⟨⟨k + 1, x * 256 + y, by omega, by go_num, rfl, hstep, by omega, ?_, trivial⟩, by simp [intOf]; omega⟩
      have := Hx1.out
      rw [Int.pow_succ]
      omega
    · have hE : Hid (x = b.foldl (fun n x => n * 256 + x) 0) := by rw [hx.out, List.take_of_length_le (by omega)]; exact hid rfl
      go_wp2
      go_ret
      exact ⟨ret_int hE.out, rfl⟩
end Go.Proofs.Ytodkcagingnelab.Dy
