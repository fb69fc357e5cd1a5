/- The walk of the law PaceTells. -/
import Derived.Test.YtmpieablhmgjmaaWalki
import Derived.Deep.RegionHeld3
namespace Go.Proofs.Ytmpieablhmgjmaa
open Go.RowKit

theorem St.same {w W W' : World} {p : Pa} {x : Int × Int} {a : Option Addr} {L : List (Int × Int)} (h : St w p x a L W) (e1 : W'.heap = W.heap) (e2 : W'.os = W.os) (e3 : W'.tape = W.tape) (e4 : W'.output = W.output) : St w p x a L W' :=
  h.on ⟨e2, e3, e4, by rw [e1]; exact Nat.le_refl _, fun k _ => by rw [e1]⟩

theorem St.call {w W W' w1 : World} {p : Pa} {x : Int × Int} {a : Option Addr} {L : List (Int × Int)} (hb : Below W'.heap.size W' w1) (h : St w p x a L W) (e1 : W'.heap = W.heap) (e2 : W'.os = W.os) (e3 : W'.tape = W.tape) (e4 : W'.output = W.output) : St w p x a L w1 :=
  (h.same e1 e2 e3 e4).on hb

/-- The cells that the law reads over and over. -/
theorem St.held {w W : World} {p : Pa} {x : Int × Int} {a : Option Addr} {L : List (Int × Int)} (h : St w p x a L W) :
    W.cell? ⟨w.heap.size, 0, none⟩ = some (.int .i64 p.t) ∧ W.cell? ⟨w.heap.size, 1, none⟩ = some (.int .i64 p.c) ∧ W.cell? ⟨w.heap.size, 2, none⟩ = some (.int .i64 p.s) ∧
    W.cell? ⟨w.heap.size + 1, 0, none⟩ = some (.int .i64 x.1) ∧ W.cell? ⟨w.heap.size + 1, 1, none⟩ = some (.int .i64 x.2) := by
  obtain ⟨h0, h1, h2⟩ := pace_cells h.pace
  obtain ⟨h3, h4⟩ := use_cells h.use
  exact ⟨h0, h1, h2, h3, h4⟩

theorem ents_at {W : World} {b : Nat} {x : Int × Int} (h : W.heap[b]? = some (.cells #[.int .i64 x.1, .int .i64 x.2] 58)) : Ents W (some ⟨b, 0, none⟩) [x] := by
  refine ⟨by simp [maxLen], Or.inr ⟨b, 0, rfl, lt_of_block h, fun i hi => ?_⟩⟩
  have h0 : i = 0 := by simp at hi; exact hi
  subst h0
  exact use_cells h

theorem refUses_at (x : Int × Int) (b : Nat) (W : World) (h : W.heap[b]? = some (.cells #[.int .i64 x.1, .int .i64 x.2] 58)) :
    Calls Try.prog 38 #[.slice (some ⟨b, 0, none⟩) 1 1] W fun e w' => e = .returned (.agg #[.int .i64 (uses [x]).1, .int .i64 (uses [x]).2]) ∧ Below W.heap.size W w' :=
  refUses_any _ 1 [x] _ (ents_at h)

theorem field25 (x y : Int) (w : World) : (Instr.field 25 (.agg #[.int .i64 x, .int .i64 y]) 0).run Try.prog w = .ok (.int .i64 x) w := by kernel_rfl

set_option maxRecDepth 10000 in
set_option maxHeartbeats 8000000 in
theorem tells_any (p : Pa) (a : Option Addr) (cap : Nat) (L : List (Int × Int)) (x : Int × Int) (w : World) (hL : Ents w a L) (hr : L.length * 16 ≤ 140737488351232) :
    Calls Try.prog 11 #[pv p, .slice a L.length cap, uv x] w fun e w' => e = .returned (.bool true) ∧ Below w.heap.size w w' := by
  unfold pv uv
  obtain ⟨bb, hs1, hp1, hx1⟩ := boxes (p := p) (x := x) (Below.refl _ ((w.alloc (.cells #[.int .i64 p.t, .int .i64 p.c, .int .i64 p.s] 55)).alloc (.cells #[.int .i64 x.1, .int .i64 x.2] 58)))
  have hI : St w p x a L ((w.alloc (.cells #[.int .i64 p.t, .int .i64 p.c, .int .i64 p.s] 55)).alloc (.cells #[.int .i64 x.1, .int .i64 x.2] 58)) := ⟨bb, hs1, hp1, hx1, hL.below bb⟩
  clear bb hs1 hp1 hx1 hL
  go_enter Try.func11, Try.ntmps11
  go_upto_region 1 with fail
  generalize (w.alloc (.cells #[.int .i64 p.t, .int .i64 p.c, .int .i64 p.s] 55)).alloc (.cells #[.int .i64 x.1, .int .i64 x.2] 58) = w0 at *
  go_cut [22] from 11 to 22 (fun s wc => s = .bool false ∧ St w p x a L wc)
  case first =>
    obtain ⟨P0, P1, P2⟩ := pace_cells hI.pace
    go_region_with (first
      | (go_at_call 35; refine (wrong_any p _).mono ?_; rintro e w1 ⟨rfl, hb⟩; have hI := St.call hb hI rfl rfl rfl rfl; clear hb; obtain ⟨P0, P1, P2⟩ := pace_cells hI.pace)
      | (go_at_call 36; refine (refWrong_any p _).mono ?_; rintro e w1 ⟨rfl, hb⟩; have hI := St.call hb hI rfl rfl rfl rfl; clear hb; obtain ⟨P0, P1, P2⟩ := pace_cells hI.pace)
      | (go_at_call 37; refine (uses_any a cap L _ ?_).mono ?_; exact (hI.same rfl rfl rfl rfl).ents; rintro e w1 ⟨rfl, hb⟩; have hI := St.call hb hI rfl rfl rfl rfl; clear hb; obtain ⟨P0, P1, P2⟩ := pace_cells hI.pace)
      | (go_at_call 38; refine (refUses_any a cap L _ ?_).mono ?_; exact (hI.same rfl rfl rfl rfl).ents; rintro e w1 ⟨rfl, hb⟩; have hI := St.call hb hI rfl rfl rfl rfl; clear hb; obtain ⟨P0, P1, P2⟩ := pace_cells hI.pace))
    all_goals (go_wp2_with fail; go_meet; exact ⟨rfl, hI.same rfl rfl rfl rfl⟩)
  case rest =>
    obtain ⟨rfl, hI⟩ := hcut
    go_upto_region 3 with fail
    go_cut [46] from 23 to 46 (fun s wc => s = .bool false ∧ St w p x a L wc)
    case first =>
      generalize wc = w1 at *
      have hfd := field25
      by_cases h1 : wrongP p = 0
      rotate_left
      · have hg : (wrongP p == 0) = false := by simpa using h1
        clear h1
        obtain ⟨P0, P1, P2⟩ := pace_cells hI.pace
        refine wp_region_any (by kernel_rfl) ?_
        change wpAny _ _ _ _ _ _ _ (World.drew _)
        refine wpAny_ready (rs := [0]) (by kernel_rfl) (by simp) ?_
        refine AllReady.cons rfl (fun K hK => ?_) AllReady.nil
        go_simp
        refine hK _ _ ?_
        clear hK K
        refine wpAny_ready (rs := [1]) (by kernel_rfl) (by simp) ?_
        refine AllReady.cons rfl (fun K hK => ?_) AllReady.nil
        go_simp
        refine (refWrong_any p _).mono ?_
        rintro e w2 ⟨rfl, hb⟩
        have hI := St.call hb hI rfl rfl rfl rfl
        clear hb
        go_simp
        refine hK _ _ ?_
        clear hK K
        refine wpAny_take (i := 2) (v := .bool false) rfl (by kernel_rfl) (by kernel_rfl) (by kernel_rfl) (fun _ _ _ h => h) (Or.inl ⟨by kernel_rfl, ?_⟩) ?_
        · intro w; go_simp
        refine wpAny_take (i := 3) (v := .bool false) rfl (by kernel_rfl) (by kernel_rfl) (by kernel_rfl) (fun _ _ _ h => h) (Or.inl ⟨by kernel_rfl, ?_⟩) ?_
        · intro w; go_simp
        refine wpAny_take (i := 4) (v := undef) rfl (by kernel_rfl) (by kernel_rfl) (by kernel_rfl) (fun _ _ _ h => h) (Or.inr ⟨by kernel_rfl, rfl⟩) ?_
        refine wpAny_take (i := 5) (v := undef) rfl (by kernel_rfl) (by kernel_rfl) (by kernel_rfl) (fun _ _ _ h => h) (Or.inr ⟨by kernel_rfl, rfl⟩) ?_
        refine wpAny_take (i := 6) (v := undef) rfl (by kernel_rfl) (by kernel_rfl) (by kernel_rfl) (fun _ _ _ h => h) (Or.inr ⟨by kernel_rfl, rfl⟩) ?_
        refine wpAny_take (i := 7) (v := undef) rfl (by kernel_rfl) (by kernel_rfl) (by kernel_rfl) (fun _ _ _ h => h) (Or.inr ⟨by kernel_rfl, rfl⟩) ?_
        refine wpAny_take (i := 8) (v := undef) rfl (by kernel_rfl) (by kernel_rfl) (by kernel_rfl) (fun _ _ _ h => h) (Or.inr ⟨by kernel_rfl, rfl⟩) ?_
        refine wpAny_take (i := 9) (v := .bool false) rfl (by kernel_rfl) (by kernel_rfl) (by kernel_rfl) (fun _ _ _ h => h) (Or.inl ⟨by kernel_rfl, ?_⟩) ?_
        · intro w; go_simp
        refine wpAny_take (i := 10) (v := .bool false) rfl (by kernel_rfl) (by kernel_rfl) (by kernel_rfl) (fun _ _ _ h => h) (Or.inl ⟨by kernel_rfl, ?_⟩) ?_
        · intro w; go_simp
        refine wpAny_take (i := 11) (v := undef) rfl (by kernel_rfl) (by kernel_rfl) (by kernel_rfl) (fun _ _ _ h => h) (Or.inr ⟨by kernel_rfl, rfl⟩) ?_
        refine wpAny_take (i := 12) (v := undef) rfl (by kernel_rfl) (by kernel_rfl) (by kernel_rfl) (fun _ _ _ h => h) (Or.inr ⟨by kernel_rfl, rfl⟩) ?_
        refine wpAny_take (i := 13) (v := undef) rfl (by kernel_rfl) (by kernel_rfl) (by kernel_rfl) (fun _ _ _ h => h) (Or.inr ⟨by kernel_rfl, rfl⟩) ?_
        refine wpAny_take (i := 14) (v := undef) rfl (by kernel_rfl) (by kernel_rfl) (by kernel_rfl) (fun _ _ _ h => h) (Or.inr ⟨by kernel_rfl, rfl⟩) ?_
        refine wpAny_take (i := 15) (v := undef) rfl (by kernel_rfl) (by kernel_rfl) (by kernel_rfl) (fun _ _ _ h => h) (Or.inr ⟨by kernel_rfl, rfl⟩) ?_
        refine wpAny_take (i := 16) (v := undef) rfl (by kernel_rfl) (by kernel_rfl) (by kernel_rfl) (fun _ _ _ h => h) (Or.inr ⟨by kernel_rfl, rfl⟩) ?_
        refine wpAny_take (i := 17) (v := undef) rfl (by kernel_rfl) (by kernel_rfl) (by kernel_rfl) (fun _ _ _ h => h) (Or.inr ⟨by kernel_rfl, rfl⟩) ?_
        refine wpAny_take (i := 18) (v := undef) rfl (by kernel_rfl) (by kernel_rfl) (by kernel_rfl) (fun _ _ _ h => h) (Or.inr ⟨by kernel_rfl, rfl⟩) ?_
        refine wpAny_take (i := 19) (v := undef) rfl (by kernel_rfl) (by kernel_rfl) (by kernel_rfl) (fun _ _ _ h => h) (Or.inr ⟨by kernel_rfl, rfl⟩) ?_
        refine wpAny_take (i := 20) (v := undef) rfl (by kernel_rfl) (by kernel_rfl) (by kernel_rfl) (fun _ _ _ h => h) (Or.inr ⟨by kernel_rfl, rfl⟩) ?_
        refine wpAny_take (i := 21) (v := undef) rfl (by kernel_rfl) (by kernel_rfl) (by kernel_rfl) (fun _ _ _ h => h) (Or.inr ⟨by kernel_rfl, rfl⟩) ?_
        refine wpAny_take (i := 22) (v := undef) rfl (by kernel_rfl) (by kernel_rfl) (by kernel_rfl) (fun _ _ _ h => h) (Or.inr ⟨by kernel_rfl, rfl⟩) ?_
        refine wpAny_take (i := 23) (v := .bool false) rfl (by kernel_rfl) (by kernel_rfl) (by kernel_rfl) (fun _ _ _ h => h) (Or.inl ⟨by kernel_rfl, ?_⟩) ?_
        · intro w; go_simp
        simp only [List.getElem_toArray, List.getElem_cons_zero, List.getElem_cons_succ, Act.put, List.setIfInBounds_toArray, List.set_cons_zero, List.set_cons_succ]
        refine wpAny_done (by kernel_rfl) ?_ _
        go_wp2_with fail
        go_meet
        exact ⟨rfl, hI.same rfl rfl rfl rfl⟩
      have hg : (wrongP p == 0) = true := by simpa using h1
      have HP := hid (wrongP_ok.1 h1)
      clear h1
      cases hx : inU x with
      | false =>
        have hu : (uses [x]).1 = 3 := by rw [uses_one, hx]; rfl
        have hg2 : ((uses [x]).1 == 0) = false := by rw [hu]; rfl
        clear hu
        obtain ⟨P0, P1, P2⟩ := pace_cells hI.pace
        refine wp_region_any (by kernel_rfl) ?_
        change wpAny _ _ _ _ _ _ _ (World.drew _)
        refine wpAny_ready (rs := [0]) (by kernel_rfl) (by simp) ?_
        refine AllReady.cons rfl (fun K hK => ?_) AllReady.nil
        go_simp
        refine hK _ _ ?_
        clear hK K
        refine wpAny_ready (rs := [1]) (by kernel_rfl) (by simp) ?_
        refine AllReady.cons rfl (fun K hK => ?_) AllReady.nil
        go_simp
        refine (refWrong_any p _).mono ?_
        rintro e w2 ⟨rfl, hb⟩
        have hI := St.call hb hI rfl rfl rfl rfl
        obtain ⟨X0, X1⟩ := use_cells hI.use
        clear hb
        go_simp
        refine hK _ _ ?_
        clear hK K
        refine wpAny_take (i := 2) (v := .bool true) rfl (by kernel_rfl) (by kernel_rfl) (by kernel_rfl) (fun _ _ _ h => h) (Or.inl ⟨by kernel_rfl, ?_⟩) ?_
        · intro w; go_simp
        refine wpAny_take (i := 3) (v := .bool true) rfl (by kernel_rfl) (by kernel_rfl) (by kernel_rfl) (fun _ _ _ h => h) (Or.inl ⟨by kernel_rfl, ?_⟩) ?_
        · intro w; go_simp
        simp only [List.getElem_toArray, List.getElem_cons_zero, List.getElem_cons_succ, Act.put, List.setIfInBounds_toArray, List.set_cons_zero, List.set_cons_succ]
        refine wpAny_ready (rs := [4]) (by kernel_rfl) (by simp) ?_
        refine AllReady.cons rfl (fun K hK => ?_) AllReady.nil
        go_simp
        refine hK _ _ ?_
        clear hK K
        refine wpAny_ready (rs := [5]) (by kernel_rfl) (by simp) ?_
        refine AllReady.cons rfl (fun K hK => ?_) AllReady.nil
        go_simp
        refine hK _ _ ?_
        clear hK K
        refine wpAny_ready (rs := [6]) (by kernel_rfl) (by simp) ?_
        refine AllReady.cons rfl (fun K hK => ?_) AllReady.nil
        go_simp
        refine (refUses_at x _ _ ?_).mono ?_
        · exact heap_alloc_at w2 _ _ rfl
        rintro e w3 ⟨rfl, hb⟩
        have hI := (hI.on (below_alloc _ _)).on hb
        clear hb
        go_simp
        refine hK _ _ ?_
        clear hK K
        refine wpAny_take (i := 7) (v := .int .i64 (uses [x]).1) rfl (by kernel_rfl) (by kernel_rfl) (by kernel_rfl) (fun _ _ _ h => h) (Or.inl ⟨by kernel_rfl, ?_⟩) ?_
        · intro w; go_simp
        refine wpAny_take (i := 8) (v := .bool false) rfl (by kernel_rfl) (by kernel_rfl) (by kernel_rfl) (fun _ _ _ h => h) (Or.inl ⟨by kernel_rfl, ?_⟩) ?_
        · intro w; go_simp
        refine wpAny_take (i := 9) (v := .bool false) rfl (by kernel_rfl) (by kernel_rfl) (by kernel_rfl) (fun _ _ _ h => h) (Or.inl ⟨by kernel_rfl, ?_⟩) ?_
        · intro w; go_simp
        refine wpAny_take (i := 10) (v := .bool false) rfl (by kernel_rfl) (by kernel_rfl) (by kernel_rfl) (fun _ _ _ h => h) (Or.inl ⟨by kernel_rfl, ?_⟩) ?_
        · intro w; go_simp
        refine wpAny_take (i := 11) (v := undef) rfl (by kernel_rfl) (by kernel_rfl) (by kernel_rfl) (fun _ _ _ h => h) (Or.inr ⟨by kernel_rfl, rfl⟩) ?_
        refine wpAny_take (i := 12) (v := undef) rfl (by kernel_rfl) (by kernel_rfl) (by kernel_rfl) (fun _ _ _ h => h) (Or.inr ⟨by kernel_rfl, rfl⟩) ?_
        refine wpAny_take (i := 13) (v := undef) rfl (by kernel_rfl) (by kernel_rfl) (by kernel_rfl) (fun _ _ _ h => h) (Or.inr ⟨by kernel_rfl, rfl⟩) ?_
        refine wpAny_take (i := 14) (v := undef) rfl (by kernel_rfl) (by kernel_rfl) (by kernel_rfl) (fun _ _ _ h => h) (Or.inr ⟨by kernel_rfl, rfl⟩) ?_
        refine wpAny_take (i := 15) (v := undef) rfl (by kernel_rfl) (by kernel_rfl) (by kernel_rfl) (fun _ _ _ h => h) (Or.inr ⟨by kernel_rfl, rfl⟩) ?_
        refine wpAny_take (i := 16) (v := undef) rfl (by kernel_rfl) (by kernel_rfl) (by kernel_rfl) (fun _ _ _ h => h) (Or.inr ⟨by kernel_rfl, rfl⟩) ?_
        refine wpAny_take (i := 17) (v := undef) rfl (by kernel_rfl) (by kernel_rfl) (by kernel_rfl) (fun _ _ _ h => h) (Or.inr ⟨by kernel_rfl, rfl⟩) ?_
        refine wpAny_take (i := 18) (v := undef) rfl (by kernel_rfl) (by kernel_rfl) (by kernel_rfl) (fun _ _ _ h => h) (Or.inr ⟨by kernel_rfl, rfl⟩) ?_
        refine wpAny_take (i := 19) (v := undef) rfl (by kernel_rfl) (by kernel_rfl) (by kernel_rfl) (fun _ _ _ h => h) (Or.inr ⟨by kernel_rfl, rfl⟩) ?_
        refine wpAny_take (i := 20) (v := undef) rfl (by kernel_rfl) (by kernel_rfl) (by kernel_rfl) (fun _ _ _ h => h) (Or.inr ⟨by kernel_rfl, rfl⟩) ?_
        refine wpAny_take (i := 21) (v := undef) rfl (by kernel_rfl) (by kernel_rfl) (by kernel_rfl) (fun _ _ _ h => h) (Or.inr ⟨by kernel_rfl, rfl⟩) ?_
        refine wpAny_take (i := 22) (v := undef) rfl (by kernel_rfl) (by kernel_rfl) (by kernel_rfl) (fun _ _ _ h => h) (Or.inr ⟨by kernel_rfl, rfl⟩) ?_
        refine wpAny_take (i := 23) (v := .bool false) rfl (by kernel_rfl) (by kernel_rfl) (by kernel_rfl) (fun _ _ _ h => h) (Or.inl ⟨by kernel_rfl, ?_⟩) ?_
        · intro w; go_simp
        simp only [List.getElem_toArray, List.getElem_cons_zero, List.getElem_cons_succ, Act.put, List.setIfInBounds_toArray, List.set_cons_zero, List.set_cons_succ]
        refine wpAny_done (by kernel_rfl) ?_ _
        go_wp2_with fail
        go_meet
        exact ⟨rfl, hI.same rfl rfl rfl rfl⟩
      | true =>
        have hu : (uses [x]).1 = 0 := by rw [uses_one, hx]; rfl
        have hg2 : ((uses [x]).1 == 0) = true := by rw [hu]; rfl
        have h1 := HP.out.t1
        have h2 := HP.out.t2
        obtain ⟨h3, h4, -, -⟩ := inU_true.1 hx
        clear hu
        go_region_held3 (fun w' => w'.cell? ⟨w.heap.size, 0, none⟩ = some (.int .i64 p.t) ∧ w'.cell? ⟨w.heap.size, 1, none⟩ = some (.int .i64 p.c) ∧ w'.cell? ⟨w.heap.size, 2, none⟩ = some (.int .i64 p.s) ∧ w'.cell? ⟨w.heap.size + 1, 0, none⟩ = some (.int .i64 x.1) ∧ w'.cell? ⟨w.heap.size + 1, 1, none⟩ = some (.int .i64 x.2)) (first | exact (hI.same rfl rfl rfl rfl).held | exact (hI.on (below_alloc _ _)).held)
          (first
            | (go_at_call 36; refine (refWrong_any p _).mono ?_; rintro e w1 ⟨rfl, hb⟩; have hI := St.call hb hI rfl rfl rfl rfl; clear hb)
            | (go_at_call 38; refine (refUses_at x _ _ ?_).mono ?_; exact heap_alloc_at w1 _ _ rfl; rintro e w2 ⟨rfl, hb⟩; have hI := (hI.on (below_alloc _ _)).on hb; clear hb)
            | (go_at_call 40; refine (recent_any p a cap L x.1 _ ?_ h1 h2 h3 h4 hr).mono ?_; exact hI.ents; rintro e w2 ⟨v, rfl, hown, hb⟩; obtain ⟨a1, cap1, rfl, -, -, hE1⟩ := ents_of_owns hown; have hI := hI.on hb; clear hb hown)
            | (go_at_call 41; refine (refRecent_any p a cap L x.1 _ ?_ h1 h2 h3 h4 hr).mono ?_; exact hI.ents; rintro e w2 ⟨v, rfl, hown, hb⟩; obtain ⟨a2, cap2, rfl, -, -, hE2⟩ := ents_of_owns hown; have hE1 := hE1.below hb; have hI := hI.on hb; clear hb hown)
            | (go_at_call 39; refine (same_any a1 cap1 (recent (x.1 - p.t) L) a2 cap2 _ hE1 hE2).mono ?_; rintro e w6 ⟨rfl, hb⟩; have hI := hI.on hb; clear hb))
        all_goals (go_wp2_with fail; go_meet; exact ⟨rfl, hI.same rfl rfl rfl rfl⟩)
    case rest =>
      obtain ⟨rfl, hI⟩ := hcut
      generalize wc = w2 at *
      obtain ⟨P0, P1, P2⟩ := pace_cells hI.pace
      obtain ⟨X0, X1⟩ := use_cells hI.use
      go_wp2_with fail
      refine (add_any p a cap L x _ hI.ents).mono ?_
      intro e w3 hA
      obtain ⟨a3, cap3, rfl, hE3, hb3⟩ := hA.read
      have S3 := hI.on hb3
      clear hA P0 P1 P2 X0 X1 hI hb3
      obtain ⟨P0, P1, P2⟩ := pace_cells S3.pace
      obtain ⟨X0, X1⟩ := use_cells S3.use
      go_wp2_with fail
      refine (refAdd_any p a cap L x _ S3.ents).mono ?_
      intro e w4 hA
      obtain ⟨a4, cap4, rfl, hE4, hb4⟩ := hA.read
      have hE3' := hE3.below hb4
      have bb4 := (S3.on hb4).bel
      clear hA P0 P1 P2 X0 X1 S3 hb4 hE3
      generalize addU p L x = R at *
      go_wp2_with (go_at_call 39; refine (same_any a3 cap3 R.1 a4 cap4 _ hE3' hE4).mono ?_; rintro e w6 ⟨rfl, hb6⟩)
      go_ret
      exact ⟨rfl, bb4.trans (hb6.mono bb4.size)⟩
end Go.Proofs.Ytmpieablhmgjmaa
