import Derived.Test.YtodkcagingnelacGreatDoorChecked
import Derived.Deep.QuietTactic
import Derived.BigQuiet
import Derived.Deep.RegionWith
import Derived.Deep.RegionLaw
import Derived.Deep.CutRange
import Derived.Deep.RegionHeld3
import Derived.Test.YtodkcagingnelacGreatDoorMFreeaa
import Derived.Test.YtodkcagingnelacGreatDoorMFreeak
namespace Go.Proofs.YtodkcagingnelacGreatDoor.Dy
open Go.RowKit Go.Proofs.YtodkcagingnelacGreatDoor.Gn
/-- A record, as a value, as cells. -/
def rv (r : Rc) : Value := .agg #[.int .i64 r.sh, .int .i64 r.au, .int .i64 r.k, .int .i64 r.m]
def rob (r : Rc) : Obj := .cells #[.int .i64 r.sh, .int .i64 r.au, .int .i64 r.k, .int .i64 r.m] 79
def kR : Kind Rc where
  cells := fun r => [.int .i64 r.sh, .int .i64 r.au, .int .i64 r.k, .int .i64 r.m]
  size := 4
  len := fun _ => rfl
  one := fun x u hu => by simp at hu; rcases hu with rfl | rfl | rfl | rfl <;> rfl
  pos := by decide
theorem infoR : (Tryz.prog.info? 79).map (fun i => (i.zero, i.size, i.bytes)) = some (some (.agg #[.int .i64 0, .int .i64 0, .int .i64 0, .int .i64 0]), 4, 32) := by kernel_rfl
theorem elemR : Elem Tryz.prog kR 39 79 32 := by
  obtain ⟨i, h1, h2, h3, h4⟩ := info_parts infoR
  exact ⟨Tryz.underlying39, i, _, h1, h2, h3, h4, rfl⟩
theorem rc_cells {w : World} {a : Option Addr} {cap : Nat} {L : List Rc} (h : Lies kR w a cap L) {i : Nat} (hi : i < L.length) :
    ∃ b off, a = some ⟨b, off, none⟩ ∧ b < w.heap.size ∧ w.cell? ⟨b, off + i * 4, none⟩ = some (.int .i64 (L.getD i zR).sh) ∧ w.cell? ⟨b, off + i * 4 + 1, none⟩ = some (.int .i64 (L.getD i zR).au) ∧
      w.cell? ⟨b, off + i * 4 + 2, none⟩ = some (.int .i64 (L.getD i zR).k) ∧ w.cell? ⟨b, off + i * 4 + 3, none⟩ = some (.int .i64 (L.getD i zR).m) := by
  obtain ⟨b, off, ha, hb, hc⟩ := h.elem (i := i) (x := L.getD i zR) (by simp [List.getD, hi])
  exact ⟨b, off, ha, hb, hc 0 _ rfl, hc 1 _ rfl, hc 2 _ rfl, hc 3 _ rfl⟩
theorem ret_bool {a b : Bool} (h : a = b) : Ending.returned (.bool a) = .returned (.bool b) := by rw [h]
theorem ret_int {k : IntKind} {a b : Int} (h : a = b) : Ending.returned (.int k a) = .returned (.int k b) := by rw [h]
theorem hid {p : Prop} (h : p) : Hid p := h
theorem bel_alloc {W X : World} (h : Below W.heap.size W X) (o : Obj) : Below W.heap.size W (X.alloc o) := h.alloc h.size o
/-- A slice value that lies in memory as a list. -/
def At {α : Type} (K : Kind α) (W : World) (v : Value) (L : List α) : Prop := ∃ a cap, v = .slice a L.length cap ∧ Lies K W a cap L
theorem At.below {α : Type} {K : Kind α} {W W' : World} {v : Value} {L : List α} (h : At K W v L) (hb : Below W.heap.size W W') : At K W' v L := by
  obtain ⟨a, cap, rfl, hl⟩ := h
  exact ⟨a, cap, rfl, hl.below hb⟩
theorem At.drew {α : Type} {K : Kind α} {W : World} {v : Value} {L : List α} (h : At K W v L) : At K W.drew v L := by
  obtain ⟨a, cap, rfl, hl⟩ := h
  exact ⟨a, cap, rfl, hl.drew⟩
theorem At.len {α : Type} {K : Kind α} {W : World} {v : Value} {L : List α} (h : At K W v L) : L.length ≤ maxLen := by
  obtain ⟨a, cap, rfl, hl⟩ := h
  exact hl.len
theorem row_at {α : Type} {K : Kind α} {e : TypeId} {W : World} {base : Nat} {v : Value} {L : List α} (h : Row K e W base v L) : ∃ a cap, v = .slice a L.length cap ∧ Row K e W base (.slice a L.length cap) L ∧ Lies K W a cap L := by
  obtain ⟨a, cap, rfl, hl, -, -⟩ := h.lies
  exact ⟨a, cap, rfl, h, hl⟩
theorem Row.at {α : Type} {K : Kind α} {e : TypeId} {W : World} {base : Nat} {v : Value} {L : List α} (h : Row K e W base v L) : At K W v L := by
  obtain ⟨a, cap, h1, -, h2⟩ := row_at h
  exact ⟨a, cap, h1, h2⟩
/-- Block g holds the records L from its first cell on. -/
def Blo (w : World) (g : Nat) (L : List Rc) : Prop := L.length ≤ maxLen ∧ ∃ rest : List Value, w.heap[g]? = some (.cells (kR.flat L ++ rest).toArray 79)
theorem Blo.lt {w : World} {g : Nat} {L : List Rc} (h : Blo w g L) : g < w.heap.size := by
  obtain ⟨-, rest, h⟩ := h
  exact lt_of_block h
theorem Blo.keep {w w' : World} {g : Nat} {L : List Rc} (h : Blo w g L) (hk : w'.heap[g]? = w.heap[g]?) : Blo w' g L := by
  obtain ⟨h0, rest, h⟩ := h
  exact ⟨h0, rest, hk.trans h⟩
theorem Blo.below {w w' : World} {g : Nat} {L : List Rc} (h : Blo w g L) {B : Nat} (hb : Below B w w') (hg : g < B) : Blo w' g L := h.keep (hb.block g hg)
theorem Blo.alloc {w : World} {g : Nat} {L : List Rc} (h : Blo w g L) (o : Obj) : Blo (w.alloc o) g L := h.below (below_alloc w o) h.lt
theorem Blo.lies {w : World} {g : Nat} {L : List Rc} (h : Blo w g L) (cap : Nat) : Lies kR w (some ⟨g, 0, none⟩) cap L := by
  have hlt := h.lt
  obtain ⟨h0, rest, h⟩ := h
  refine ⟨h0, (fun h => by cases h), Or.inr ⟨g, 0, rfl, hlt, fun j u hj => ?_⟩⟩
  rw [Nat.zero_add, cell_of_row w g j _ _ _ h]
  have : j < (kR.flat L).length := (List.getElem?_eq_some_iff.1 hj).1
  simp only [List.getElem?_toArray]
  rw [List.getElem?_append_left this]; exact hj
theorem Blo.free {w : World} {g : Nat} {L : List Rc} (h : Blo w g L) (p : Nat) : w.frozen? ⟨g, p, none⟩ = false := by
  obtain ⟨-, rest, h⟩ := h
  simp [World.frozen?, h]
/-- A record is written over the i-th one. -/
def put4 (w : World) (g p : Nat) (r : Rc) : World := (((w.setCell ⟨g, p, none⟩ (.int .i64 r.sh)).setCell ⟨g, p + 1, none⟩ (.int .i64 r.au)).setCell ⟨g, p + 2, none⟩ (.int .i64 r.k)).setCell ⟨g, p + 3, none⟩ (.int .i64 r.m)
theorem flat_len4 (L : List Rc) : (kR.flat L).length = L.length * 4 := kR.flat_length L
theorem set_behind (A M : List Value) (k : Nat) (v : Value) : (A ++ M).set (A.length + k) v = A ++ M.set k v := by
  induction A with
  | nil => simp
  | cons a A ih => rw [List.cons_append, List.length_cons, show A.length + 1 + k = (A.length + k) + 1 by omega, List.set_cons_succ, ih]; rfl
theorem put_list (A B : List Value) (c0 c1 c2 c3 v0 v1 v2 v3 : Value) : ((((A ++ c0 :: c1 :: c2 :: c3 :: B).set A.length v0).set (A.length + 1) v1).set (A.length + 2) v2).set (A.length + 3) v3 = A ++ v0 :: v1 :: v2 :: v3 :: B := by
  have e : (A ++ c0 :: c1 :: c2 :: c3 :: B).set A.length v0 = A ++ v0 :: c1 :: c2 :: c3 :: B := set_behind A (c0 :: c1 :: c2 :: c3 :: B) 0 v0
  rw [e, set_behind, set_behind, set_behind]
  rfl
theorem flat_split {L : List Rc} {i : Nat} (hi : i < L.length) (rest : List Value) : kR.flat L ++ rest = kR.flat (L.take i) ++ .int .i64 (L.getD i zR).sh :: .int .i64 (L.getD i zR).au :: .int .i64 (L.getD i zR).k :: .int .i64 (L.getD i zR).m :: (kR.flat (L.drop (i + 1)) ++ rest) := by
  have hx : L = L.take i ++ L.getD i zR :: L.drop (i + 1) := by rw [← drop_at hi, List.take_append_drop]
  conv => lhs; rw [hx, kR.flat_append, kR.flat_cons]
  rw [List.append_assoc, List.append_assoc]
  rfl
theorem flat_split' {L : List Rc} {i : Nat} (hi : i < L.length) (r : Rc) (rest : List Value) : kR.flat (L.set i r) ++ rest = kR.flat (L.take i) ++ .int .i64 r.sh :: .int .i64 r.au :: .int .i64 r.k :: .int .i64 r.m :: (kR.flat (L.drop (i + 1)) ++ rest) := by
  have hx : L = L.take i ++ L.getD i zR :: L.drop (i + 1) := by rw [← drop_at hi, List.take_append_drop]
  have hs : L.set i r = L.take i ++ r :: L.drop (i + 1) := by
    conv => lhs; rw [hx]
    exact set_app' (by simp; omega) _ _ _
  rw [hs, kR.flat_append, kR.flat_cons, List.append_assoc, List.append_assoc]
  rfl
theorem Blo.put {w : World} {g : Nat} {L : List Rc} (h : Blo w g L) {i p : Nat} (hi : i < L.length) (hp : p = i * 4) (r : Rc) : Blo (put4 w g p r) g (L.set i r) := by
  obtain ⟨h0, rest, h⟩ := h
  refine ⟨by rw [List.length_set]; exact h0, rest, ?_⟩
  have hA : p = (kR.flat (L.take i)).length := by rw [flat_len4, hp]; simp; omega
  rw [flat_split hi] at h
  rw [flat_split' hi]
  generalize kR.flat (L.take i) = A at *
  generalize kR.flat (L.drop (i + 1)) ++ rest = B at *
  clear hp
  subst hA
  have h1 := heap_setCell_same w g A.length _ _ (.int .i64 r.sh) h
  have h2 := heap_setCell_same _ g (A.length + 1) _ _ (.int .i64 r.au) h1
  have h3 := heap_setCell_same _ g (A.length + 2) _ _ (.int .i64 r.k) h2
  have h4 := heap_setCell_same _ g (A.length + 3) _ _ (.int .i64 r.m) h3
  unfold put4
  rw [h4]
  simp only [List.setIfInBounds_toArray]
  rw [put_list]
theorem put4_below {B : Nat} {w W : World} (hb : Below B w W) (g p : Nat) (h : B ≤ g) (r : Rc) : Below B w (put4 W g p r) := by
  have h0 : B ≤ (⟨g, p, none⟩ : Addr).block := h
  have h1 : B ≤ (⟨g, p + 1, none⟩ : Addr).block := h
  have h2 : B ≤ (⟨g, p + 2, none⟩ : Addr).block := h
  have h3 : B ≤ (⟨g, p + 3, none⟩ : Addr).block := h
  exact (((hb.setCell h0 _).setCell h1 _).setCell h2 _).setCell h3 _
theorem Blo.cells {w : World} {g : Nat} {L : List Rc} (h : Blo w g L) {i : Nat} (hi : i < L.length) :
    w.cell? ⟨g, i * 4, none⟩ = some (.int .i64 (L.getD i zR).sh) ∧ w.cell? ⟨g, i * 4 + 1, none⟩ = some (.int .i64 (L.getD i zR).au) ∧
      w.cell? ⟨g, i * 4 + 2, none⟩ = some (.int .i64 (L.getD i zR).k) ∧ w.cell? ⟨g, i * 4 + 3, none⟩ = some (.int .i64 (L.getD i zR).m) := by
  obtain ⟨b, off, ha, -, h1, h2, h3, h4⟩ := rc_cells (h.lies 0) hi
  cases ha
  rw [Nat.zero_add] at h1 h2 h3 h4
  exact ⟨h1, h2, h3, h4⟩
/-- What the call owns, as a block. -/
theorem blo_of_owns {w : World} {base : Nat} {v : Value} {L : List Rc} (h : w.ownsRow base 79 4 v L.length (kR.flat L)) (h0 : L ≠ []) : ∃ g cap, v = .slice (some ⟨g, 0, none⟩) L.length cap ∧ L.length ≤ cap ∧ base ≤ g ∧ Blo w g L := by
  rcases h.2 with ⟨rfl, hn⟩ | ⟨g, cap, cur, rfl, hg, hh, hn, hm, hc, hx⟩
  · exact absurd (List.eq_nil_of_length_eq_zero hn) h0
  · refine ⟨g, cap, rfl, hn, hg, Nat.le_trans hn hm, cur.toList.drop (L.length * 4), ?_⟩
    rw [hh]
    congr 2
    apply Array.toList_inj.1
    rw [← hx]
    simp
end Go.Proofs.YtodkcagingnelacGreatDoor.Dy
namespace Go.Proofs.YtodkcagingnelacGreatDoor.Dy
open Go.RowKit Go.Proofs.YtodkcagingnelacGreatDoor.Gn
def cmpI (a b : Int) : Int := if a < b then -1 else if b < a then 1 else 0
def orI (x y : Int) : Int := if x ≠ 0 then x else y
def ordR (a b : Rc) : Int := orI (cmpI a.sh b.sh) (cmpI a.au b.au)
theorem ord_neg {a b : Rc} : ordR a b < 0 ↔ gtB b a = true := by
  rw [gtB_true]
  unfold ordR orI cmpI
  grind
theorem ord_pos {a b : Rc} : ¬ ordR a b < 0 ↔ gtB b a = false := by rw [ord_neg]; simp
set_option maxHeartbeats 400000 in
theorem isNaN_any (x : Int) (w : World) : Calls Tryz.prog 113 #[.int .i64 x] w fun e w' => e = .returned (.bool false) ∧ w' = w := by
  have h : (x != x) = false := by simp
  go_enter Tryz.func113, Tryz.ntmps113
  go_wp2
  go_ret
  simp
set_option maxHeartbeats 400000 in
theorem compare_any (x y : Int) (w : World) : Calls Tryz.prog 87 #[.int .i64 x, .int .i64 y] w fun e w' => e = .returned (.int .i64 (cmpI x y)) ∧ w' = w := by
  have key : ∀ r, cmpI x y = r → Hid (cmpI x y = r) := fun r h => h
  by_cases h1 : x < y
  · have hu := key (-1) (by unfold cmpI; rw [if_pos h1])
    clear key
    go_enter Tryz.func87, Tryz.ntmps87
    go_wp2_with (go_at_call 113; refine (isNaN_any _ _).mono ?_; rintro e w' ⟨rfl, rfl⟩)
    go_ret
    exact ⟨ret_int hu.out.symm, rfl⟩
  by_cases h2 : y < x
  · have hu := key 1 (by unfold cmpI; rw [if_neg h1, if_pos h2])
    clear key
    go_enter Tryz.func87, Tryz.ntmps87
    go_wp2_with (go_at_call 113; refine (isNaN_any _ _).mono ?_; rintro e w' ⟨rfl, rfl⟩)
    go_ret
    exact ⟨ret_int hu.out.symm, rfl⟩
  · have hu := key 0 (by unfold cmpI; rw [if_neg h1, if_neg h2])
    clear key
    go_enter Tryz.func87, Tryz.ntmps87
    go_wp2_with (go_at_call 113; refine (isNaN_any _ _).mono ?_; rintro e w' ⟨rfl, rfl⟩)
    go_ret
    exact ⟨ret_int hu.out.symm, rfl⟩
set_option maxHeartbeats 800000 in
theorem or_any (b c : Nat) (x y : Int) (w : World) (hx : w.cell? ⟨b, 0, none⟩ = some (.int .i64 x)) (hy : w.cell? ⟨b, 1, none⟩ = some (.int .i64 y)) :
    Calls Tryz.prog 86 #[.slice (some ⟨b, 0, none⟩) 2 c] w fun e w' => e = .returned (.int .i64 (orI x y)) ∧ w' = w := by
  have key : ∀ r, orI x y = r → Hid (orI x y = r) := fun r h => h
  go_enter Tryz.func86, Tryz.ntmps86
  go_wp2
  go_loopw [8] (fun i wr => ∃ k : Nat, k ≤ 2 ∧ i = .int .i64 k ∧ wr = w ∧ Hid (1 ≤ k → x = 0) ∧ Hid (2 ≤ k → y = 0)) (fun i _ => 2 - (intOf i).toNat)
  case atStart => exact ⟨0, by omega, rfl, rfl, fun h => absurd h (by decide), fun h => absurd h (by decide)⟩
  case round =>
    obtain ⟨k, hk, rfl, rfl, h1, h2⟩ := hrel
    obtain rfl | rfl | rfl : k = 0 ∨ k = 1 ∨ k = 2 := by omega
    · by_cases h0 : x = 0
      · have g0 : (x == 0) = true := by simpa using h0
        have g0' : (x != 0) = false := by simpa using h0
        have H : Hid (x = 0) := h0
        clear h0
        go_wp2
        go_roundw
        case rel => exact ⟨1, by omega, rfl, trivial, fun _ => H.out, fun h => absurd h (by decide)⟩
        case measure => decide
      · have hu := key x (by unfold orI; rw [if_pos h0])
        have g0 : (x == 0) = false := by simpa using h0
        have g0' : (x != 0) = true := by simpa using h0
        clear h0
        go_wp2
        go_ret
        exact ⟨ret_int hu.out.symm, rfl⟩
    · have hx0 : x = 0 := h1.out (by omega)
      by_cases h0 : y = 0
      · have g0 : (y == 0) = true := by simpa using h0
        have g0' : (y != 0) = false := by simpa using h0
        have H : Hid (y = 0) := h0
        have HX : Hid (x = 0) := hx0
        clear h0
        go_wp2
        go_roundw
        case rel => exact ⟨2, by omega, rfl, trivial, fun _ => HX.out, fun _ => H.out⟩
        case measure => decide
      · have hu := key y (by unfold orI; rw [if_neg (by simpa using hx0)])
        have g0 : (y == 0) = false := by simpa using h0
        have g0' : (y != 0) = true := by simpa using h0
        clear h0
        go_wp2
        go_ret
        exact ⟨ret_int hu.out.symm, rfl⟩
    · have hu := key 0 (by unfold orI; rw [h1.out (by omega), h2.out (by omega)]; rfl)
      go_wp2
      go_ret
      exact ⟨ret_int hu.out.symm, rfl⟩
set_option maxHeartbeats 1600000 in
theorem order_any (a b : Rc) (w : World) : Calls Tryz.prog 67 #[rv a, rv b] w fun e w' => e = .returned (.int .i64 (ordR a b)) ∧ Below w.heap.size w w' := by
  obtain ⟨a1, a2, a3, a4⟩ := a
  obtain ⟨b1, b2, b3, b4⟩ := b
  unfold rv ordR
  dsimp only
  go_enter Tryz.func67, Tryz.ntmps67
  go_upto_region 1 with fail
  have hb0 : Below w.heap.size w ((w.alloc (.cells #[.int .i64 a1, .int .i64 a2, .int .i64 a3, .int .i64 a4] 79)).alloc (.cells #[.int .i64 b1, .int .i64 b2, .int .i64 b3, .int .i64 b4] 79)) := bel_alloc (bel_alloc (Below.refl _ _) _) _
  have c1 : ((w.alloc (.cells #[.int .i64 a1, .int .i64 a2, .int .i64 a3, .int .i64 a4] 79)).alloc (.cells #[.int .i64 b1, .int .i64 b2, .int .i64 b3, .int .i64 b4] 79)).cell? ⟨w.heap.size, 0, none⟩ = some (.int .i64 a1) := by simp
  have c2 : ((w.alloc (.cells #[.int .i64 a1, .int .i64 a2, .int .i64 a3, .int .i64 a4] 79)).alloc (.cells #[.int .i64 b1, .int .i64 b2, .int .i64 b3, .int .i64 b4] 79)).cell? ⟨w.heap.size, 1, none⟩ = some (.int .i64 a2) := by simp
  have c3 : ((w.alloc (.cells #[.int .i64 a1, .int .i64 a2, .int .i64 a3, .int .i64 a4] 79)).alloc (.cells #[.int .i64 b1, .int .i64 b2, .int .i64 b3, .int .i64 b4] 79)).cell? ⟨w.heap.size + 1, 0, none⟩ = some (.int .i64 b1) := by simp
  have c4 : ((w.alloc (.cells #[.int .i64 a1, .int .i64 a2, .int .i64 a3, .int .i64 a4] 79)).alloc (.cells #[.int .i64 b1, .int .i64 b2, .int .i64 b3, .int .i64 b4] 79)).cell? ⟨w.heap.size + 1, 1, none⟩ = some (.int .i64 b2) := by simp
  have hs : ((w.alloc (.cells #[.int .i64 a1, .int .i64 a2, .int .i64 a3, .int .i64 a4] 79)).alloc (.cells #[.int .i64 b1, .int .i64 b2, .int .i64 b3, .int .i64 b4] 79)).heap.size = w.heap.size + 2 := by simp
  generalize (w.alloc (.cells #[.int .i64 a1, .int .i64 a2, .int .i64 a3, .int .i64 a4] 79)).alloc (.cells #[.int .i64 b1, .int .i64 b2, .int .i64 b3, .int .i64 b4] 79) = W at *
  have d1 : ∀ o, (W.alloc o).cell? ⟨w.heap.size, 0, none⟩ = some (.int .i64 a1) := fun o => by rw [World.cell?_alloc_past _ _ _ (show w.heap.size < W.heap.size by omega)]; exact c1
  have d2 : ∀ o, (W.alloc o).cell? ⟨w.heap.size, 1, none⟩ = some (.int .i64 a2) := fun o => by rw [World.cell?_alloc_past _ _ _ (show w.heap.size < W.heap.size by omega)]; exact c2
  have d3 : ∀ o, (W.alloc o).cell? ⟨w.heap.size + 1, 0, none⟩ = some (.int .i64 b1) := fun o => by rw [World.cell?_alloc_past _ _ _ (show w.heap.size + 1 < W.heap.size by omega)]; exact c3
  have d4 : ∀ o, (W.alloc o).cell? ⟨w.heap.size + 1, 1, none⟩ = some (.int .i64 b2) := fun o => by rw [World.cell?_alloc_past _ _ _ (show w.heap.size + 1 < W.heap.size by omega)]; exact c4
  clear hs
  have hsz := hb0.size
  go_region_held3 (fun w' => w'.cell? ⟨w.heap.size, 0, none⟩ = some (.int .i64 a1) ∧ w'.cell? ⟨w.heap.size, 1, none⟩ = some (.int .i64 a2) ∧ w'.cell? ⟨w.heap.size + 1, 0, none⟩ = some (.int .i64 b1) ∧ w'.cell? ⟨w.heap.size + 1, 1, none⟩ = some (.int .i64 b2)) (first | exact ⟨c1, c2, c3, c4⟩ | exact ⟨d1 _, d2 _, d3 _, d4 _⟩)
    (first
    | (go_at_call 87; refine (compare_any _ _ _).mono ?_; rintro e w' ⟨rfl, rfl⟩)
    | (go_at_call 86; refine (or_any _ _ (cmpI a1 b1) (cmpI a2 b2) _ (by simp) (by simp)).mono ?_; rintro e w' ⟨rfl, rfl⟩))
  all_goals
    go_wp2_with fail
    go_ret
    exact ⟨rfl, (hb0.alloc (by omega) _).drew⟩
end Go.Proofs.YtodkcagingnelacGreatDoor.Dy
namespace Go.Proofs.YtodkcagingnelacGreatDoor.Dy
open Go.RowKit Go.Proofs.YtodkcagingnelacGreatDoor.Gn
/-- The order as a function value. -/
def fo : Value := .func (.func 67) #[] #[]
/-- What a call that sorts in place leaves. -/
structure Sorts (w : World) (g : Nat) (L : List Rc) (w' : World) : Prop where
  bel : Below g w w'
  blo : Blo w' g L
theorem wrap64 {x : Int} (h1 : -9223372036854775808 ≤ x) (h2 : x ≤ 9223372036854775807) : IntKind.i64.wrap x = x := by
  simp [IntKind.wrap, IntKind.bits, IntKind.signed]
  omega
theorem Blo.drew {w : World} {g : Nat} {L : List Rc} (h : Blo w g L) : Blo w.drew g L := h.keep rfl
theorem Blo.swp {w : World} {g : Nat} {L : List Rc} (h : Blo w g L) {i j : Nat} (hi : i < L.length) (hj : j < L.length) {x y : Rc} (hx : L.getD i zR = x) (hy : L.getD j zR = y) : Blo (put4 (put4 w g (i * 4) y) g (j * 4) x) g (swp L i j) := by
  subst hx hy
  exact (h.put hi rfl _).put (by rw [List.length_set]; exact hj) rfl _
set_option maxHeartbeats 1600000 in
theorem swapRange_any (P U V W Q : List Rc) (n : Nat) (hu : U.length = n) (hw : W.length = n) (g N cap a b : Nat) (ha : a = P.length) (hb : b = P.length + n + V.length) (w : World)
    (hN : N = (P ++ (U ++ (V ++ (W ++ Q)))).length) (hN2 : N ≤ 1152921504606846976) (hB : Blo w g (P ++ (U ++ (V ++ (W ++ Q))))) :
    Calls Tryz.prog 161 #[.slice (some ⟨g, 0, none⟩) N cap, .int .i64 a, .int .i64 b, .int .i64 n, fo] w fun e w' => e = .returned (.tuple #[]) ∧ Sorts w g (P ++ (W ++ (V ++ (U ++ Q)))) w' := by
  rw [← swd_zero P U V W Q] at hB hN
  rw [← swd_end (P := P) (V := V) (Q := Q) hu hw]
  have hN' : ∀ k, k ≤ n → (swd P U V W Q k).length = N := fun k hk => by rw [hN, swd_length hu hw hk, swd_length hu hw (Nat.zero_le _)]
  have hNn : P.length + n + V.length + n + Q.length = N := by rw [hN, swd_length hu hw (Nat.zero_le _)]
  clear hN
  unfold fo
  go_enter Tryz.func161, Tryz.ntmps161
  go_wp2
  go_loopw [10] (fun i wr => ∃ k : Nat, k ≤ n ∧ i = .int .i64 k ∧ Below g w wr ∧ Hid (Blo wr g (swd P U V W Q k))) (fun i _ => n - (intOf i).toNat)
  case atStart => exact ⟨0, Nat.zero_le _, rfl, Below.refl _ _, hB⟩
  case round =>
    obtain ⟨k, hk, rfl, hbel, hblo⟩ := hrel
    by_cases hlt : k < n
    · have hlt' : (k : Int) < n := by omega
      have hL := hN' k hk
      obtain ⟨c1, c2, c3, c4⟩ := hblo.out.cells (i := a + k) (by omega)
      obtain ⟨d1, d2, d3, d4⟩ := hblo.out.cells (i := b + k) (by omega)
      have fr := hblo.out.free
      have hnext := swd_next (P := P) (V := V) (Q := Q) (a := a + k) (b := b + k) hu hw hlt (by omega) (by omega)
      have hij : a + k ≠ b + k := by omega
      have hi : a + k < N := by omega
      have hj : b + k < N := by omega
      have Ha := hid ha
      have Hb := hid hb
      have Hn := hid hnext
      have HL := hid hL
      have HN := hid hN'
      have hb' : b ≤ 1152921504606846976 := by omega
      have ha' : a ≤ 1152921504606846976 := by omega
      have hk' : k ≤ 1152921504606846976 := by omega
      clear ha hb hnext hL hN' hNn hu hw
      go_upto_region 3 with fail
      generalize hx : (swd P U V W Q k).getD (a + k) zR = x at *
      generalize hy : (swd P U V W Q k).getD (b + k) zR = y at *
      go_region
      have hP := hblo.out.swp (i := a + k) (j := b + k) (by rw [HL.out]; exact hi) (by rw [HL.out]; exact hj) hx hy
      have hQ := put4_below (put4_below hbel g ((a + k) * 4) (Nat.le_refl _) y) g ((b + k) * 4) (Nat.le_refl _) x
      rw [Hn.out] at hP
      unfold put4 at hP hQ
      go_wp2_with fail
      go_roundw
      case rel => exact ⟨k + 1, by omega, by go_num, hQ.drew, hP.drew⟩
      case measure => simp [intOf]; omega
    · have hk2 : k = n := by omega
      subst hk2
      go_wp2_with fail
      go_end0
      exact ⟨rfl, hbel, hblo.out⟩
theorem sort_le_one {X : List Rc} (h : X.length ≤ 1) : sortR X = X := by
  match X, h with
  | [], _ => rfl
  | [x], _ => exact sort_of_srt (List.pairwise_singleton _ _)
theorem take_sort_length {X : List Rc} {k : Nat} (h : k ≤ X.length) : (sortR (X.take k)).length = k := by rw [sort_length]; simp; omega
set_option maxHeartbeats 3200000 in
theorem insertion_any (P X Q : List Rc) (g N cap a b : Nat) (ha : a = P.length) (hb : b = P.length + X.length) (w : World)
    (hN : N = (P ++ (X ++ Q)).length) (hN2 : N ≤ 1152921504606846976) (hB : Blo w g (P ++ (X ++ Q))) :
    Calls Tryz.prog 114 #[.slice (some ⟨g, 0, none⟩) N cap, .int .i64 a, .int .i64 b, fo] w fun e w' => e = .returned (.tuple #[]) ∧ Sorts w g (P ++ (sortR X ++ Q)) w' := by
  have hNn : P.length + X.length + Q.length = N := by rw [hN]; simp; omega
  clear hN
  unfold fo
  go_enter Tryz.func114, Tryz.ntmps114
  go_wp2
  go_loopw [8] (fun i wr => ∃ k : Nat, 1 ≤ k ∧ (k ≤ X.length ∨ k = 1) ∧ i = .int .i64 ((a : Int) + k) ∧ Below g w wr ∧ Hid (Blo wr g (P ++ (sortR (X.take k) ++ (X.drop k ++ Q))))) (fun i _ => b + 1 - (intOf i).toNat)
  case atStart =>
    refine ⟨1, Nat.le_refl _, Or.inr rfl, by go_num, Below.refl _ _, ?_⟩
    rw [sort_le_one (by simp; omega), ← List.append_assoc (X.take 1), List.take_append_drop]
    exact hB
  case round =>
    obtain ⟨k, hk1, hk2, rfl, hbel, hblo⟩ := hrel
    by_cases hlt : k < X.length
    · have hlt' : (a : Int) + k < b := by omega
      obtain ⟨x, hx⟩ : ∃ x, Hid (X.getD k zR = x) := ⟨_, rfl⟩
      obtain ⟨S, hS⟩ : ∃ S, Hid (sortR (X.take k) = S) := ⟨_, rfl⟩
      obtain ⟨R, hR⟩ : ∃ R, Hid (X.drop (k + 1) ++ Q = R) := ⟨_, rfl⟩
      have hSl : S.length = k := by rw [← hS.out]; exact take_sort_length (by omega)
      have h0 : Blo wr g (P ++ (mid S x k ++ R)) := by
        have := hblo.out
        rw [hS.out, drop_at hlt, hx.out, List.cons_append, hR.out] at this
        rw [← hSl, mid_end]; simpa using this
      have hend : ∀ p, pos x S S.length = p → Hid (Blo wr g (P ++ (mid S x p ++ R)) = Blo wr g (P ++ (sortR (X.take (k + 1)) ++ (X.drop (k + 1) ++ Q)))) := fun p hp => by
        refine hid ?_
        rw [sort_next hlt, hx.out, hS.out, ins_mid hp, hR.out]
      have hRl : P.length + (k + 1) + R.length = N := by rw [← hR.out]; simp; omega
      have hmid : ∀ p, p ≤ k → (P ++ (mid S x p ++ R)).length = N := fun p hp => by
        rw [List.length_append, List.length_append, mid_length _ _ (by omega)]; omega
      have Hmid := hid hmid
      have HN := hid hNn
      have Hend : ∀ W p, pos x S S.length = p → Blo W g (P ++ (mid S x p ++ R)) → Hid (Blo W g (P ++ (sortR (X.take (k + 1)) ++ (X.drop (k + 1) ++ Q)))) := fun W p hp hW => by
        refine hid ?_
        rw [sort_next hlt, hx.out, hS.out, ins_mid hp, hR.out]; exact hW
      have Ha := hid ha
      have Hb := hid hb
      have ha' : a ≤ 1152921504606846976 := by omega
      have hb' : b ≤ 1152921504606846976 := by omega
      have haN : a + k < N := by omega
      clear hend hmid hblo hRl hNn ha hb hB
      go_wp2_with fail
      generalize wr = W0 at *
      go_loopw [9] (fun j wr => ∃ q : Nat, a ≤ q ∧ q ≤ a + k ∧ j = .int .i64 (q : Int) ∧ Below g w wr ∧ Hid (pos x S S.length = pos x S (q - a)) ∧ Hid (Blo wr g (P ++ (mid S x (q - a) ++ R)))) (fun j _ => (intOf j).toNat)
      case atStart =>
        refine ⟨a + k, by omega, by omega, by go_num, hbel, ?_, ?_⟩
        · rw [hSl, Nat.add_sub_cancel_left]; exact hid rfl
        · rw [Nat.add_sub_cancel_left]; exact h0
      case round =>
        obtain ⟨q, hq1, hq2, rfl, hbel2, hpos, hblo2⟩ := hrel
        by_cases hqa : q = a
        · subst hqa
          have hz : q - q = 0 := Nat.sub_self q
          rw [hz] at hpos hblo2
          have hE := Hend wr 0 hpos.out hblo2.out
          clear hz
          go_upto_region 4 with fail
          go_quiet (fail)
          go_wp2_with fail
          go_roundw
          case rel => exact ⟨k + 1, by omega, by omega, by go_num, below_drewN hbel2 _, hE.out.keep rfl⟩
          case measure => simp [intOf]; omega
        · obtain ⟨r, rfl⟩ : ∃ r, q = r + 1 := ⟨q - 1, by omega⟩
          have hg : a < r + 1 := by omega
          have hg2 : a ≤ r := by omega
          have hd : decide ((a : Int) < (r : Int) + 1) = true := by simp; omega
          have hI0 : (0 : Int) ≤ (r : Int) + 1 := by omega
          have hI1 : (r : Int) + 1 < N := by omega
          have hI2 : (r : Int) < N := by omega
          have hI3 : r < N := by omega
          have hW1 : IntKind.i64.wrap ((r : Int) + 1 - 1) = r := (wrap64 (by omega) (by omega)).trans (by omega)
          have hW2 : IntKind.i64.wrap (r : Int) = r := wrap64 (by omega) (by omega)
          have hp : r + 1 - a = (r - a) + 1 := by omega
          rw [hp] at hpos hblo2
          have hL := Hmid.out (r - a + 1) (by omega)
          have hi : r + 1 < N := by omega
          obtain ⟨c1, c2, c3, c4⟩ := hblo2.out.cells (i := r + 1) (by omega)
          obtain ⟨d1, d2, d3, d4⟩ := hblo2.out.cells (i := r) (by omega)
          have hy1 := mid_at P S x R (p := r - a + 1) (i := r + 1) (by omega) (by rw [← Ha.out]; omega)
          have hy2 := mid_ahead P S x R (p := r - a) (i := r) (by omega) (by rw [← Ha.out]; omega)
          have hnext := swp_mid P S x R (p := r - a) (i := r) (j := r + 1) (by omega) (by rw [← Ha.out]; omega) (by rw [← Ha.out]; omega)
          obtain ⟨y, hy⟩ : ∃ y, Hid (S.getD (r - a) zR = y) := ⟨_, rfl⟩
          rw [hy.out] at hy2
          rw [hy1] at c1 c2 c3 c4
          rw [hy2] at d1 d2 d3 d4
          have fr := hblo2.out.free
          have hsz := hblo2.out.lt
          have Hnext := hid hnext
          have Hy1 := hid hy1
          have Hy2 := hid hy2
          have HL := hid hL
          clear hnext hy1 hy2 hL hp hqa
          obtain ⟨o, ho⟩ : ∃ o, Hid (ordR x y = o) := ⟨_, rfl⟩
          have hord : ∀ W : World, Calls Tryz.prog 67 #[rv x, rv y] W fun e w' => e = .returned (.int .i64 o) ∧ Below W.heap.size W w' := fun W => by rw [← ho.out]; exact order_any x y W
          unfold rv at hord
          have hkeep : ∀ W : World, Below wr.heap.size wr W → W.cell? ⟨g, (r + 1) * 4, none⟩ = some (.int .i64 x.sh) ∧ W.cell? ⟨g, (r + 1) * 4 + 1, none⟩ = some (.int .i64 x.au) ∧ W.cell? ⟨g, (r + 1) * 4 + 2, none⟩ = some (.int .i64 x.k) ∧ W.cell? ⟨g, (r + 1) * 4 + 3, none⟩ = some (.int .i64 x.m) ∧ W.cell? ⟨g, r * 4, none⟩ = some (.int .i64 y.sh) ∧ W.cell? ⟨g, r * 4 + 1, none⟩ = some (.int .i64 y.au) ∧ W.cell? ⟨g, r * 4 + 2, none⟩ = some (.int .i64 y.k) ∧ W.cell? ⟨g, r * 4 + 3, none⟩ = some (.int .i64 y.m) := fun W hb => ⟨(hb.cell (p := ⟨g, _, none⟩) hsz).trans c1, (hb.cell (p := ⟨g, _, none⟩) hsz).trans c2, (hb.cell (p := ⟨g, _, none⟩) hsz).trans c3, (hb.cell (p := ⟨g, _, none⟩) hsz).trans c4, (hb.cell (p := ⟨g, _, none⟩) hsz).trans d1, (hb.cell (p := ⟨g, _, none⟩) hsz).trans d2, (hb.cell (p := ⟨g, _, none⟩) hsz).trans d3, (hb.cell (p := ⟨g, _, none⟩) hsz).trans d4⟩
          have fr1 : ∀ W : World, Below wr.heap.size wr W → ∀ p, W.frozen? ⟨g, p, none⟩ = false := fun W hb => (hblo2.out.below hb hsz).free
          go_upto_region 4 with fail
          go_region_held3 (fun w' => w'.cell? ⟨g, (r + 1) * 4, none⟩ = some (.int .i64 x.sh) ∧ w'.cell? ⟨g, (r + 1) * 4 + 1, none⟩ = some (.int .i64 x.au) ∧ w'.cell? ⟨g, (r + 1) * 4 + 2, none⟩ = some (.int .i64 x.k) ∧ w'.cell? ⟨g, (r + 1) * 4 + 3, none⟩ = some (.int .i64 x.m) ∧ w'.cell? ⟨g, r * 4, none⟩ = some (.int .i64 y.sh) ∧ w'.cell? ⟨g, r * 4 + 1, none⟩ = some (.int .i64 y.au) ∧ w'.cell? ⟨g, r * 4 + 2, none⟩ = some (.int .i64 y.k) ∧ w'.cell? ⟨g, r * 4 + 3, none⟩ = some (.int .i64 y.m)) (first | exact ⟨c1, c2, c3, c4, d1, d2, d3, d4⟩ | exact hkeep _ hb2)
            ((go_at_call 67; refine (hord _).mono ?_; rintro e w1 ⟨rfl, hb1⟩; have hb2 : Below wr.heap.size wr w1 := (Below.refl wr.heap.size wr).drew.trans hb1; clear hb1))
          have hbl3 := hb2
          have hB3 := hid (hblo2.out.below hb2 hsz)
          obtain ⟨c1, c2, c3, c4, d1, d2, d3, d4⟩ := hkeep w1 hb2
          have fr3 := fr1 w1 hb2
          have hbw : Below g w w1 := hbel2.trans (hb2.mono (Nat.le_of_lt hsz))
          clear hb2 hkeep fr1 hord fr
          by_cases ho0 : o < 0
          · have hgt : gtB (S.getD (r - a) zR) x = true := by rw [hy.out]; exact ord_neg.1 (by rw [ho.out]; exact ho0)
            have hpos2 := hid (hpos.out.trans (pos_go hgt))
            have Hgt := hid hgt
            clear hgt
            go_upto_region 6 with fail
            go_region
            have hP := hB3.out.swp (i := r + 1) (j := r) (by rw [HL.out]; exact hi) (by rw [HL.out]; exact hI3) Hy1.out Hy2.out
            have hQ := put4_below (put4_below hbw g ((r + 1) * 4) (Nat.le_refl _) y) g (r * 4) (Nat.le_refl _) x
            rw [Hnext.out] at hP
            unfold put4 at hP hQ
            go_wp2_with fail
            go_roundw
            case rel => exact ⟨r, by omega, by omega, by go_num, hQ.drew, hpos2, hP.drew⟩
            case measure => simp [intOf]
          · have hgt : gtB (S.getD (r - a) zR) x = false := by rw [hy.out]; exact ord_pos.1 (by rw [ho.out]; exact ho0)
            have hE := Hend w1 (r - a + 1) (hpos.out.trans (pos_stay hgt)) hB3.out
            clear hgt
            go_wp2_with fail
            go_roundw
            case rel => exact ⟨k + 1, by omega, by omega, by go_num, hbw, hE.out⟩
            case measure => simp [intOf]; omega
    · have hblo2 : Blo wr g (P ++ (sortR X ++ Q)) := by
        have := hblo.out
        rw [List.take_of_length_le (by omega), List.drop_eq_nil_of_le (by omega)] at this
        simpa using this
      have hge : ¬ ((a : Int) + k < b) := by omega
      go_wp2_with fail
      go_end0
      exact ⟨rfl, hbel, hblo2⟩
end Go.Proofs.YtodkcagingnelacGreatDoor.Dy
