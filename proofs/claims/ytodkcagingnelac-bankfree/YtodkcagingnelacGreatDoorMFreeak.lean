import Derived.Laws.BytesString
import Derived.Test.YtodkcagingnelacGreatDoorMFreeaa
import Derived.Test.YtodkcagingnelacGreatDoorMFreead
import Derived.Test.YtodkcagingnelacGreatDoorMFreeaj
namespace Go.Proofs.YtodkcagingnelacGreatDoor.St
open Go.RowKit Go.Proofs.YtodkcagingnelacGreatDoor.Gn
def clearD (s : Sd) : Sd × List Ad × Int := if wrongD s ≠ 0 then (zD, [], wrongD s) else (⟨s.cap, List.replicate s.used.length 0, []⟩, s.adv, 0)
theorem clear_bad {s : Sd} (h : wrongD s ≠ 0) : clearD s = (zD, [], wrongD s) := by unfold clearD; rw [if_pos h]
theorem clear_ok {s : Sd} (h : wrongD s = 0) : clearD s = (⟨s.cap, List.replicate s.used.length 0, []⟩, s.adv, 0) := by unfold clearD; rw [if_neg (by simpa using h)]
theorem new_again {s : Sd} (r : Right s) : newD s.cap s.used.length = (⟨s.cap, List.replicate s.used.length 0, []⟩, 0) := by
  have := r.u8
  rw [new_ok (by omega) r.lim, Int.toNat_natCast]
/-- What Clear answers. -/
def AnswersC (w : World) (r : Sd × List Ad × Int) (e : Ending) (w' : World) : Prop :=
  ∃ v1 v2 v3, e = .returned (.tuple #[dv r.1.cap v1 v2, v3, .int .i64 r.2.2]) ∧ Row kI 3 w' w.heap.size v1 r.1.used ∧ Row kA 118 w' w.heap.size v2 r.1.adv ∧ Row kA 118 w' w.heap.size v3 r.2.1 ∧ Below w.heap.size w w'
theorem fieldStand (n : Int) (v1 : Value) (a : Option Addr) (l c : Nat) (w : World) : (Instr.field 38 (.agg #[.int .i64 n, v1, .slice a l c]) 2).run Tryz.prog w = .ok (.slice a l c) w := by kernel_rfl
set_option maxHeartbeats 4000000 in
theorem clear_any (s : Sd) (v1 v2 : Value) (w : World) (h1 : At kI w v1 s.used) (h2 : At kA w v2 s.adv) :
    Calls Tryz.prog 132 #[dv s.cap v1 v2] w (AnswersC w (clearD s)) := by
  have O0 := ow_new w s.cap v1 v2
  have hh1 := h1
  have hh2 := h2
  obtain ⟨a1, c1, rfl, hl1⟩ := h1
  obtain ⟨a2, c2, rfl, hl2⟩ := h2
  unfold dob at O0
  unfold dv
  go_enter Tryz.func132, Tryz.ntmps132
  go_upto_region 1 with fail
  generalize (w.alloc (.cells #[.int .i64 s.cap, .slice a1 s.used.length c1, .slice a2 s.adv.length c2] 38)).alloc (.cells #[.int .i64 0, .slice none 0 0, .slice none 0 0] 38) = W0 at *
  obtain ⟨C0, C1, C2⟩ := dob_cells O0.box
  go_wp2_with fail
  refine (wrong_any s _ _ _ (hh1.below O0.bel) (hh2.below O0.bel)).mono ?_
  rintro e w1 ⟨rfl, hb1⟩
  have O1 := O0.on hb1
  clear C0 C1 C2 O0 hb1
  by_cases hw : wrongD s = 0
  case neg =>
    have HG := hid (clear_bad hw)
    have hne : (wrongD s != 0) = true := by simpa using hw
    clear hw
    generalize wrongD s = r at *
    obtain ⟨R0, R1, R2⟩ := dob_cells O1.res
    obtain ⟨E0, E1, E2⟩ := dob_free O1.res
    go_wp2
    refine bodyPost_ret (v := .tuple #[.agg #[.int .i64 0, .slice none 0 0, .slice none 0 0], .slice none 0 0, .int .i64 r]) (by simp [results, Tryz.results132, go_sem, R0, R1, R2]; try rfl) rfl ?_
    rw [HG.out]
    refine ⟨_, _, _, rfl, .nil, .nil, .nil, ?_⟩
    repeat refine Below.setCell ?_ (by simp <;> omega) _
    exact O1.bel
  case pos =>
    have R := right_of hw
    have u8 := R.u8
    have a20 := R.a20
    have HG := hid (clear_ok hw)
    have HN := hid (new_again R)
    rw [hw]
    clear hw
    obtain ⟨C0, C1, C2⟩ := dob_cells O1.box
    go_wp2_with fail
    refine (new_any _ _ _).mono ?_
    rw [HN.out]
    rintro e w2 ⟨n1, n2, rfl, hr1, hr2, hb2⟩
    have O2 := O1.on hb2
    have hz1 := O1.lt
    have hr1 := hr1.mono (base' := w.heap.size + 2) (by omega)
    have hr2 := hr2.mono (base' := w.heap.size + 2) (by omega)
    clear C0 C1 C2 O1 hb2
    obtain ⟨b1, d1, rfl, -, -⟩ := row_at hr1
    obtain ⟨b2, d2, rfl, -, -⟩ := row_at hr2
    dsimp only [List.length_replicate, List.length_nil, dv] at hr1 hr2 ⊢
    have O3 := O2.on (below_alloc w2 (dob s.cap (.slice b1 s.used.length d1) (.slice b2 0 d2)))
    have hE : (w2.alloc (dob s.cap (.slice b1 s.used.length d1) (.slice b2 0 d2))).heap[w2.heap.size]? = some (dob s.cap (.slice b1 s.used.length d1) (.slice b2 0 d2)) := heap_alloc_at _ _ _ rfl
    have hr3 := hr1.alloc (dob s.cap (.slice b1 s.used.length d1) (.slice b2 0 d2))
    have hr4 := hr2.alloc (dob s.cap (.slice b1 s.used.length d1) (.slice b2 0 d2))
    have hz2 := O2.lt
    unfold dob at O3 hE hr3 hr4
    clear hr1 hr2
    go_upto_region 5 with fail
    generalize w2.alloc (.cells #[.int .i64 s.cap, .slice b1 s.used.length d1, .slice b2 0 d2] 38) = W3 at *
    clear O2
    generalize w2.heap.size = E at *
    obtain ⟨C0, C1, C2⟩ := dob_cells O3.box
    obtain ⟨D0, D1, D2⟩ := dob_cells hE
    have hfd := fieldStand
    go_region_with (go_at_call 156; refine (own_any s _ _ _ (hh1.below O3.bel.drew) (hh2.below O3.bel.drew) u8 a20).mono ?_
                    rintro e w4 ⟨u1, u2, rfl, -, -, hu2, -, hb4⟩
                    have hb4 : Below W3.heap.size W3 w4 := ((Below.refl _ _).drew).trans hb4
                    have O4 := O3.on hb4
                    have hE4 := (hb4.block _ (lt_of_block hE)).trans hE
                    have hr5 := hr3.below hb4
                    have hr6 := hr4.below hb4
                    have hu4 : Row kA 118 w4 (w.heap.size + 2) u2 s.adv := hu2.mono O3.lt
                    obtain ⟨x2, y2, rfl, -, -⟩ := row_at hu4
                    obtain ⟨R0, R1, R2⟩ := dob_cells O4.res
                    obtain ⟨E0, E1, E2⟩ := dob_free O4.res
                    obtain ⟨D0', D1', D2'⟩ := dob_cells hE4
                    unfold dv)
    all_goals
      go_wp2
      refine bodyPost_ret (v := .tuple #[.agg #[.int .i64 s.cap, .slice b1 s.used.length d1, .slice b2 0 d2], .slice x2 s.adv.length y2, .int .i64 0]) (by simp [results, Tryz.results132, go_sem, R0, R1, R2]; try rfl) rfl ?_
      rw [HG.out]
      refine ⟨_, _, _, rfl, ?_, ?_, ?_, ?_⟩
      · refine Row.mono (base := w.heap.size + 2) ?_ (by omega)
        repeat refine Row.set ?_ _ (by simp) _
        simpa using hr5
      · refine Row.mono (base := w.heap.size + 2) ?_ (by omega)
        repeat refine Row.set ?_ _ (by simp) _
        exact hr6
      · refine Row.mono (base := w.heap.size + 2) ?_ (by omega)
        repeat refine Row.set ?_ _ (by simp) _
        exact hu4
      · repeat refine Below.setCell ?_ (by simp <;> omega) _
        exact O4.bel
end Go.Proofs.YtodkcagingnelacGreatDoor.St
namespace Go.Proofs.YtodkcagingnelacGreatDoor.Dy
/-- Each permission's as they came. -/
def Same (L L' : List Rc) : Prop := ∀ a b, L'.filter (key a b) = L.filter (key a b)
theorem Same.refl (L : List Rc) : Same L L := fun _ _ => rfl
theorem Same.trans {A B C : List Rc} (h : Same A B) (h' : Same B C) : Same A C := fun a b => (h' a b).trans (h a b)
theorem Same.app {A A' B B' : List Rc} (h : Same A A') (h' : Same B B') : Same (A ++ B) (A' ++ B') := fun a b => by rw [List.filter_append, List.filter_append, h, h']
theorem same_sort (L : List Rc) : Same L (sortR L) := fun a b => sort_filter L a b
theorem Same.sorted {L L' : List Rc} (h : Same L L') (hs : Srt L') : L' = sortR L := sort_eq hs h
theorem keys_apart {U V : List Rc} (h : ∀ x ∈ U, ∀ y ∈ V, gtB x y = true) : Same (U ++ V) (V ++ U) := by
  intro a b
  rw [List.filter_append, List.filter_append]
  by_cases hu : U.filter (key a b) = []
  · rw [hu]; simp
  · have hv : V.filter (key a b) = [] := by
      rw [List.filter_eq_nil_iff]
      intro y hy hk
      apply hu
      rw [List.filter_eq_nil_iff]
      intro x hx hk'
      have := key_gt hk (h x hx y hy)
      rw [this] at hk'; cases hk'
    rw [hv]; simp
def swp (L : List Rc) (i j : Nat) : List Rc := (L.set i (L.getD j zR)).set j (L.getD i zR)
theorem getD_app (P : List Rc) (x : Rc) (Q : List Rc) : (P ++ x :: Q).getD P.length zR = x := by simp [List.getD]
theorem getD_app' {P : List Rc} {n : Nat} (h : n = P.length) (x : Rc) (Q : List Rc) : (P ++ x :: Q).getD n zR = x := by subst h; exact getD_app P x Q
theorem set_app (P : List Rc) (x z : Rc) (Q : List Rc) : (P ++ x :: Q).set P.length z = P ++ z :: Q := by
  induction P with
  | nil => rfl
  | cons y P ih => simp
theorem set_app' {P : List Rc} {n : Nat} (h : n = P.length) (x z : Rc) (Q : List Rc) : (P ++ x :: Q).set n z = P ++ z :: Q := by subst h; exact set_app P x z Q
/-- Two elements change places. -/
theorem swp_two (P : List Rc) (x : Rc) (M : List Rc) (y : Rc) (Q : List Rc) {i j : Nat} (hi : i = P.length) (hj : j = P.length + 1 + M.length) :
    swp (P ++ x :: (M ++ y :: Q)) i j = P ++ y :: (M ++ x :: Q) := by
  have e : ∀ z w : Rc, P ++ z :: (M ++ w :: Q) = (P ++ z :: M) ++ w :: Q := fun z w => by simp
  have h1 : (P ++ x :: (M ++ y :: Q)).getD i zR = x := getD_app' hi x _
  have h2 : (P ++ x :: (M ++ y :: Q)).getD j zR = y := by rw [e]; exact getD_app' (by simp; omega) y _
  unfold swp
  rw [h1, h2, set_app' hi, e, set_app' (by simp; omega), e]
theorem swp_comm {L : List Rc} {i j : Nat} (hij : i ≠ j) : swp L i j = swp L j i := by
  unfold swp
  rw [List.set_comm _ _ hij]
/-- A neighbour goes ahead. -/
theorem swp_next (P : List Rc) (x y : Rc) (Q : List Rc) {i j : Nat} (hi : i = P.length) (hj : j = P.length + 1) : swp (P ++ x :: y :: Q) j i = P ++ y :: x :: Q := by
  rw [swp_comm (by omega)]
  exact swp_two P x [] y Q hi (by simp [hj])
/-- What stands while the next one goes to its place. -/
def mid (S : List Rc) (x : Rc) (p : Nat) : List Rc := S.take p ++ x :: S.drop p
theorem mid_length (S : List Rc) (x : Rc) {p : Nat} (h : p ≤ S.length) : (mid S x p).length = S.length + 1 := by unfold mid; simp; omega
theorem mid_end (S : List Rc) (x : Rc) : mid S x S.length = S ++ [x] := by unfold mid; simp
theorem mid_split (S : List Rc) (x : Rc) {p : Nat} (h : p < S.length) : mid S x (p + 1) = S.take p ++ S.getD p zR :: x :: S.drop (p + 1) := by
  unfold mid; rw [take_at h]; simp
theorem mid_split' (S : List Rc) (x : Rc) {p : Nat} (h : p < S.length) : mid S x p = S.take p ++ x :: S.getD p zR :: S.drop (p + 1) := by
  unfold mid; rw [drop_at h]
theorem swp_mid (P S : List Rc) (x : Rc) (Q : List Rc) {p i j : Nat} (h : p < S.length) (hi : i = P.length + p) (hj : j = P.length + p + 1) : swp (P ++ (mid S x (p + 1) ++ Q)) j i = P ++ (mid S x p ++ Q) := by
  rw [mid_split S x h, mid_split' S x h]
  have e : ∀ y z : Rc, P ++ ((S.take p ++ y :: z :: S.drop (p + 1)) ++ Q) = (P ++ S.take p) ++ y :: z :: (S.drop (p + 1) ++ Q) := fun y z => by simp
  rw [e, e]
  exact swp_next _ _ _ _ (by simp; omega) (by simp; omega)
theorem mid_at (P S : List Rc) (x : Rc) (Q : List Rc) {p i : Nat} (h : p ≤ S.length) (hi : i = P.length + p) : (P ++ (mid S x p ++ Q)).getD i zR = x := by
  have e : P ++ (mid S x p ++ Q) = (P ++ S.take p) ++ x :: (S.drop p ++ Q) := by unfold mid; simp
  rw [e]; exact getD_app' (by simp; omega) _ _
theorem mid_ahead (P S : List Rc) (x : Rc) (Q : List Rc) {p i : Nat} (h : p < S.length) (hi : i = P.length + p) : (P ++ (mid S x (p + 1) ++ Q)).getD i zR = S.getD p zR := by
  have e : P ++ (mid S x (p + 1) ++ Q) = (P ++ S.take p) ++ S.getD p zR :: x :: (S.drop (p + 1) ++ Q) := by rw [mid_split S x h]; simp
  rw [e]; exact getD_app' (by simp; omega) _ _
theorem sort_snoc (X : List Rc) (x : Rc) : sortR (X ++ [x]) = insR (sortR X) x := by unfold sortR; rw [List.foldl_append]; rfl
theorem sort_next {X : List Rc} {k : Nat} (h : k < X.length) : sortR (X.take (k + 1)) = insR (sortR (X.take k)) (X.getD k zR) := by rw [take_at h, sort_snoc]
theorem ins_mid {S : List Rc} {x : Rc} {p : Nat} (h : pos x S S.length = p) : insR S x = mid S x p := by unfold insR mid; rw [h]
theorem pos_stay {S : List Rc} {x : Rc} {p : Nat} (h : gtB (S.getD p zR) x = false) : pos x S (p + 1) = p + 1 := by unfold pos; rw [if_neg (by rw [h]; simp)]
theorem pos_go {S : List Rc} {x : Rc} {p : Nat} (h : gtB (S.getD p zR) x = true) : pos x S (p + 1) = pos x S p := by
  conv => lhs; unfold pos
  rw [if_pos h]
def swd (P U V W Q : List Rc) (i : Nat) : List Rc := P ++ ((W.take i ++ U.drop i) ++ (V ++ ((U.take i ++ W.drop i) ++ Q)))
theorem swd_zero (P U V W Q : List Rc) : swd P U V W Q 0 = P ++ (U ++ (V ++ (W ++ Q))) := by simp [swd]
theorem swd_end {P U V W Q : List Rc} {n : Nat} (hu : U.length = n) (hw : W.length = n) : swd P U V W Q n = P ++ (W ++ (V ++ (U ++ Q))) := by
  unfold swd
  rw [List.drop_eq_nil_of_le (by omega), List.drop_eq_nil_of_le (by omega), List.take_of_length_le (by omega), List.take_of_length_le (by omega)]
  simp
theorem swd_length {P U V W Q : List Rc} {n i : Nat} (hu : U.length = n) (hw : W.length = n) (hi : i ≤ n) : (swd P U V W Q i).length = P.length + n + V.length + n + Q.length := by
  unfold swd; simp; omega
theorem swd_next {P U V W Q : List Rc} {n i a b : Nat} (hu : U.length = n) (hw : W.length = n) (hi : i < n) (ha : a = P.length + i) (hb : b = P.length + n + V.length + i) :
    swp (swd P U V W Q i) a b = swd P U V W Q (i + 1) := by
  unfold swd
  rw [drop_at (L := U) (k := i) (by omega), drop_at (L := W) (k := i) (by omega), take_at (L := U) (k := i) (by omega), take_at (L := W) (k := i) (by omega)]
  have e : ∀ x y : Rc, P ++ ((W.take i ++ x :: U.drop (i + 1)) ++ (V ++ ((U.take i ++ y :: W.drop (i + 1)) ++ Q))) = (P ++ W.take i) ++ x :: ((U.drop (i + 1) ++ V ++ U.take i) ++ y :: (W.drop (i + 1) ++ Q)) := fun x y => by simp
  rw [e, swp_two _ _ _ _ _ (by simp; omega) (by simp; omega)]
  simp
theorem all_le {S : List Rc} (hs : Srt S) {i : Nat} {y : Rc} (h : i = 0 ∨ gtB (S.getD (i - 1) zR) y = false) (hi : i ≤ S.length) : ∀ x ∈ S.take i, gtB x y = false := by
  intro x hx
  obtain ⟨j, h1, h2, rfl⟩ := mem_take_at hx
  rcases h with rfl | h
  · omega
  · rcases Nat.lt_or_ge j (i - 1) with h3 | h3
    · exact gtB_trans (hs.at h3 (by omega)) h
    · obtain rfl : j = i - 1 := by omega
      exact h
theorem gtB_le_lt {a b c : Rc} (h1 : gtB a b = false) (h2 : gtB c b = true) : gtB c a = true := gtB_trans' h1 h2
theorem gtB_lt_le {a b c : Rc} (h1 : gtB b a = true) (h2 : gtB b c = false) : gtB c a = true := by
  rw [gtB_false] at h2; rw [gtB_true] at *; omega
theorem all_lt {S : List Rc} (hs : Srt S) {i : Nat} {y : Rc} (h : i = 0 ∨ gtB y (S.getD (i - 1) zR) = true) (hi : i ≤ S.length) : ∀ x ∈ S.take i, gtB y x = true := by
  intro x hx
  obtain ⟨j, h1, h2, rfl⟩ := mem_take_at hx
  rcases h with rfl | h
  · omega
  · rcases Nat.lt_or_ge j (i - 1) with h3 | h3
    · exact gtB_le_lt (hs.at h3 (by omega)) h
    · obtain rfl : j = i - 1 := by omega
      exact h
theorem all_ge {S : List Rc} (hs : Srt S) {i : Nat} {y : Rc} (h : i = S.length ∨ gtB y (S.getD i zR) = false) : ∀ x ∈ S.drop i, gtB y x = false := by
  intro x hx
  obtain ⟨j, h1, h2, rfl⟩ := mem_drop_at hx
  rcases h with rfl | h
  · omega
  · rcases Nat.lt_or_ge i j with h3 | h3
    · exact gtB_trans h (hs.at h3 h2)
    · obtain rfl : j = i := by omega
      exact h
theorem all_gt {S : List Rc} (hs : Srt S) {i : Nat} {y : Rc} (h : i = S.length ∨ gtB (S.getD i zR) y = true) : ∀ x ∈ S.drop i, gtB x y = true := by
  intro x hx
  obtain ⟨j, h1, h2, rfl⟩ := mem_drop_at hx
  rcases h with rfl | h
  · omega
  · rcases Nat.lt_or_ge i j with h3 | h3
    · exact gtB_lt_le h (hs.at h3 h2)
    · obtain rfl : j = i := by omega
      exact h
/-- One element ahead of a sorted part. -/
theorem merge_left {x : Rc} {Y : List Rc} (hy : Srt Y) {i : Nat} (hi : i ≤ Y.length) (h1 : i = 0 ∨ gtB x (Y.getD (i - 1) zR) = true) (h2 : i = Y.length ∨ gtB x (Y.getD i zR) = false) : Y.take i ++ x :: Y.drop i = sortR (x :: Y) := by
  have a1 := all_lt hy h1 hi
  have a2 := all_ge hy h2
  refine Same.sorted ?_ ?_
  · have : Same (([x] ++ Y.take i) ++ Y.drop i) ((Y.take i ++ [x]) ++ Y.drop i) := (keys_apart (U := [x]) (by simpa using a1)).app (Same.refl _)
    simpa using this
  · unfold Srt
    rw [List.pairwise_append]
    refine ⟨hy.take i, List.pairwise_cons.2 ⟨a2, hy.drop i⟩, fun y hy' z hz => ?_⟩
    rcases List.mem_cons.1 hz with rfl | hz
    · exact gtB_asymm (a1 y hy')
    · exact gtB_trans (gtB_asymm (a1 y hy')) (a2 z hz)
/-- One element behind a sorted part. -/
theorem merge_right {y : Rc} {X : List Rc} (hx : Srt X) {i : Nat} (hi : i ≤ X.length) (h1 : i = 0 ∨ gtB (X.getD (i - 1) zR) y = false) (h2 : i = X.length ∨ gtB (X.getD i zR) y = true) : X.take i ++ y :: X.drop i = sortR (X ++ [y]) := by
  have a1 := all_le hx h1 hi
  have a2 := all_gt hx h2
  refine Same.sorted ?_ ?_
  · have : Same (X.take i ++ (X.drop i ++ [y])) (X.take i ++ ([y] ++ X.drop i)) := (Same.refl _).app (keys_apart (by simpa using a2))
    simpa [← List.append_assoc] using this
  · unfold Srt
    rw [List.pairwise_append]
    refine ⟨hx.take i, List.pairwise_cons.2 ⟨fun z hz => gtB_asymm (a2 z hz), hx.drop i⟩, fun x hx' z hz => ?_⟩
    rcases List.mem_cons.1 hz with rfl | hz
    · exact a1 x hx'
    · exact gtB_trans (a1 x hx') (gtB_asymm (a2 z hz))
theorem Srt.app {A B : List Rc} (ha : Srt A) (hb : Srt B) (h : ∀ x ∈ A, ∀ y ∈ B, gtB x y = false) : Srt (A ++ B) := List.pairwise_append.2 ⟨ha, hb, h⟩
theorem Srt.left {A B : List Rc} (h : Srt (A ++ B)) : Srt A := (List.pairwise_append.1 h).1
theorem Srt.right {A B : List Rc} (h : Srt (A ++ B)) : Srt B := (List.pairwise_append.1 h).2.1
theorem Srt.cross {A B : List Rc} (h : Srt (A ++ B)) : ∀ x ∈ A, ∀ y ∈ B, gtB x y = false := (List.pairwise_append.1 h).2.2
/-- Two sorted parts, each cut in two, the middle ones turned: the halves may be sorted by themselves. -/
theorem merge_core {X1 X2 Y1 Y2 : List Rc} (hX : Srt (X1 ++ X2)) (hY : Srt (Y1 ++ Y2)) (h1 : ∀ x ∈ X1, ∀ y ∈ Y2, gtB x y = false) (h2 : ∀ x ∈ X2, ∀ y ∈ Y1, gtB x y = true) :
    sortR (X1 ++ Y1) ++ sortR (X2 ++ Y2) = sortR ((X1 ++ X2) ++ (Y1 ++ Y2)) := by
  refine Same.sorted ?_ ?_
  · have a : Same (X1 ++ (X2 ++ Y1) ++ Y2) (X1 ++ (Y1 ++ X2) ++ Y2) := ((Same.refl _).app (keys_apart h2)).app (Same.refl _)
    have b : Same ((X1 ++ Y1) ++ (X2 ++ Y2)) (sortR (X1 ++ Y1) ++ sortR (X2 ++ Y2)) := (same_sort _).app (same_sort _)
    have e1 : X1 ++ (X2 ++ Y1) ++ Y2 = (X1 ++ X2) ++ (Y1 ++ Y2) := by simp
    have e2 : X1 ++ (Y1 ++ X2) ++ Y2 = (X1 ++ Y1) ++ (X2 ++ Y2) := by simp
    rw [e1, e2] at a
    exact a.trans b
  · refine Srt.app (sort_srt _) (sort_srt _) fun x hx y hy => ?_
    rw [mem_sort, List.mem_append] at hx hy
    rcases hx with hx | hx <;> rcases hy with hy | hy
    · exact hX.cross x hx y hy
    · exact h1 x hx y hy
    · exact gtB_asymm (h2 y hy x hx)
    · exact hY.cross x hx y hy
/-- The same where the cuts are told by their places. -/
theorem merge_cut {X Y : List Rc} (hX : Srt X) (hY : Srt Y) {i j : Nat} (hi : i ≤ X.length) (hj : j ≤ Y.length) (h1 : i = 0 ∨ j = Y.length ∨ gtB (X.getD (i - 1) zR) (Y.getD j zR) = false)
    (h2 : i = X.length ∨ j = 0 ∨ gtB (X.getD i zR) (Y.getD (j - 1) zR) = true) : sortR (X.take i ++ Y.take j) ++ sortR (X.drop i ++ Y.drop j) = sortR (X ++ Y) := by
  have key := merge_core (X1 := X.take i) (X2 := X.drop i) (Y1 := Y.take j) (Y2 := Y.drop j) (by rwa [List.take_append_drop]) (by rwa [List.take_append_drop]) ?_ ?_
  · rw [List.take_append_drop, List.take_append_drop] at key; exact key
  · intro x hx y hy
    rcases h1 with rfl | rfl | h1
    · simp at hx
    · simp at hy
    · obtain ⟨p, q1, q2, rfl⟩ := mem_drop_at hy
      refine all_le hX (i := i) (Or.inr ?_) hi x hx
      rcases Nat.lt_or_ge j p with h3 | h3
      · exact gtB_trans h1 (hY.at h3 q2)
      · obtain rfl : p = j := by omega
        exact h1
  · intro x hx y hy
    rcases h2 with rfl | rfl | h2
    · simp at hx
    · simp at hy
    · obtain ⟨p, q1, q2, rfl⟩ := mem_take_at hy
      refine all_gt hX (i := i) (Or.inr ?_) x hx
      rcases Nat.lt_or_ge p (j - 1) with h3 | h3
      · exact gtB_le_lt (hY.at h3 (by omega)) h2
      · obtain rfl : p = j - 1 := by omega
        exact h2
theorem sort_one_side {X Y : List Rc} (hX : Srt X) (hY : Srt Y) (h : X = [] ∨ Y = []) : sortR (X ++ Y) = X ++ Y := by
  rcases h with rfl | rfl
  · simpa using sort_of_srt hY
  · simpa using sort_of_srt hX
/-- Sorted blocks of s, the last one may be shorter. -/
def Blks (s : Nat) : List (List Rc) → Prop
  | [] => True
  | [B] => B.length ≤ s ∧ Srt B
  | B :: C :: r => B.length = s ∧ Srt B ∧ Blks s (C :: r)
def Full (s : Nat) (D : List (List Rc)) : Prop := ∀ B ∈ D, B.length = s ∧ Srt B
theorem full_nil (s : Nat) : Full s [] := fun _ h => by cases h
theorem Full.snoc {s : Nat} {D : List (List Rc)} (h : Full s D) {Z : List Rc} (hl : Z.length = s) (hz : Srt Z) : Full s (D ++ [Z]) := by
  intro B hB
  rcases List.mem_append.1 hB with h1 | h1
  · exact h B h1
  · rw [List.mem_singleton.1 h1]; exact ⟨hl, hz⟩
theorem Full.blks {s : Nat} : ∀ {D : List (List Rc)}, Full s D → ∀ {Z : List Rc}, Z.length ≤ s → Srt Z → Blks s (D ++ [Z])
  | [], _, _, hl, hz => ⟨hl, hz⟩
  | [B], h, _, hl, hz => ⟨(h B List.mem_cons_self).1, (h B List.mem_cons_self).2, hl, hz⟩
  | B :: C :: r, h, _, hl, hz => ⟨(h B List.mem_cons_self).1, (h B List.mem_cons_self).2, Full.blks (D := C :: r) (fun x hx => h x (List.mem_cons_of_mem _ hx)) hl hz⟩
/-- Two blocks ahead, where there is as much. -/
theorem Blks.two {s : Nat} (hs : 0 < s) : ∀ {B : List (List Rc)}, Blks s B → 2 * s ≤ B.flatten.length → ∃ X Y r, B = X :: Y :: r ∧ X.length = s ∧ Y.length = s ∧ Srt X ∧ Srt Y ∧ Blks s r
  | [], _, h2 => by simp at h2; omega
  | [X], h, h2 => by simp [Blks] at h h2; omega
  | [X, Y], h, h2 => by
    simp only [Blks] at h
    simp only [List.flatten_cons, List.flatten_nil, List.append_nil, List.length_append] at h2
    exact ⟨X, Y, [], rfl, h.1, by omega, h.2.1, h.2.2.2, trivial⟩
  | X :: Y :: Z :: r, h, _ => by
    simp only [Blks] at h
    exact ⟨X, Y, Z :: r, rfl, h.1, h.2.2.1, h.2.1, h.2.2.2.1, h.2.2.2.2⟩
/-- More than one block, less than two. -/
theorem Blks.last {s : Nat} (_hs : 0 < s) : ∀ {B : List (List Rc)}, Blks s B → B.flatten.length < 2 * s → s < B.flatten.length → ∃ X Y, B.flatten = X ++ Y ∧ X.length = s ∧ Srt X ∧ Srt Y
  | [], _, h2, h3 => by simp at h3
  | [X], h, h2, h3 => by simp [Blks] at h h3; omega
  | [X, Y], h, h2, h3 => by
    simp only [Blks] at h
    exact ⟨X, Y, by simp, h.1, h.2.1, h.2.2.2⟩
  | X :: Y :: Z :: r, h, h2, _ => by
    simp only [Blks] at h
    simp only [List.flatten_cons, List.length_append] at h2
    omega
theorem Blks.small {s : Nat} (hs : 0 < s) : ∀ {B : List (List Rc)}, Blks s B → B.flatten.length ≤ s → Srt B.flatten
  | [], _, _ => srt_nil
  | [X], h, _ => by simpa [Blks] using h.2
  | [X, Y], h, h3 => by
    simp only [Blks] at h
    simp only [List.flatten_cons, List.flatten_nil, List.append_nil, List.length_append] at h3
    have : Y = [] := List.eq_nil_of_length_eq_zero (by omega)
    subst this
    simpa using h.2.1
  | X :: Y :: Z :: r, h, h2 => by
    simp only [Blks] at h
    simp only [List.flatten_cons, List.length_append] at h2
    omega
theorem flatten_snoc (D : List (List Rc)) (Z : List Rc) : (D ++ [Z]).flatten = D.flatten ++ Z := by simp
/-- A cut. -/
theorem cut (L : List Rc) {n : Nat} (h : n ≤ L.length) : ∃ A B, L = A ++ B ∧ A.length = n := ⟨L.take n, L.drop n, (List.take_append_drop n L).symm, by simp; omega⟩
end Go.Proofs.YtodkcagingnelacGreatDoor.Dy
namespace Go.Proofs.YtodkcagingnelacGreatDoor.Gn
open Go.RowKit
def kB : Kind Int where
  cells := fun x => [.int .u8 x]
  size := 1
  len := fun _ => rfl
  one := fun x u hu => by simp at hu; subst hu; rfl
  pos := by decide
end Go.Proofs.YtodkcagingnelacGreatDoor.Gn
