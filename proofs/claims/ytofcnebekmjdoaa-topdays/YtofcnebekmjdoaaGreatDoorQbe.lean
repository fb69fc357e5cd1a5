import Derived.Test.YtofcnebekmjdoaaGreatDoorQau
set_option maxHeartbeats 4000000
set_option maxRecDepth 100000
namespace Go.Proofs.YtofcnebekmjdoaaGreatDoor.Bn
def num (i : Bool) : Int := if i = true then 1 else 0
theorem side_num (i : Bool) : B3 (num i) = i := by cases i <;> rfl
theorem num_in (i : Bool) : ¬ (num i < 0 ∨ 1 < num i) := by cases i <;> simp [num]
def loseD (i : Bool) : Dd := ⟨0, 7, num i, 0, 0, 0⟩
def Hz (i : Bool) : Dd := ⟨0, 6, num i, 0, 0, 0⟩
def sendD (i : Bool) : Dd := ⟨0, 5, num i, 0, 0, 0⟩
def run (b : Aa) (ds : List Dd) : Aa := ds.foldl (fun b d => (By b d).1) b
theorem run_append (b : Aa) (x y : List Dd) : run b (x ++ y) = run (run b x) y := by unfold run; simp
theorem Ga (b : Aa) (d : Dd) (y : List Dd) : run b (d :: y) = run (By b d).1 y := rfl
theorem run_inv {b : Aa} (I : Cj b) (ds : List Dd) : Cj (run b ds) := by
 induction ds generalizing b with
 | nil => exact I
 | cons d r ih => exact ih (do_inv I)
theorem run_bound {K : Nat} {b : Aa} (I : Cj b) (B : B6 K b) (ds : List Dd) : B6 (K + ds.length) (run b ds) := by
 induction ds generalizing b K with
 | nil => exact B
 | cons d r ih =>
  have := ih (do_inv (d := d) I) (do_bound (d := d) I B)
  rw [Ga, List.length_cons]
  rwa [show K + (r.length + 1) = K + 1 + r.length by omega]
theorem play_run (ds : List Dd) : ∀ s : Aa × List (Dd × An), (∀ d ∈ ds, d.id = 0) → (ds.foldl Cc s).1 = run s.1 ds := by
 induction ds with
 | nil => intro s _; rfl
 | cons d r ih =>
  intro s h
  have h0 : (Cc s d).1 = (By s.1 d).1 := by
   unfold Cc
   rw [if_pos (h d List.mem_cons_self)]
  rw [List.foldl_cons, ih _ fun x hx => h x (List.mem_cons_of_mem _ hx), h0, Ga]
theorem playL_run (b : Aa) (l ds : List Dd) (h : ∀ d ∈ ds, d.id = 0) : (C9 b (l ++ ds)).1 = run (C9 b l).1 ds := by
 unfold C9
 rw [List.foldl_append]
 exact play_run ds _ h
theorem upd_upd {α : Type} (f : Bool → α) (i : Bool) (x y : α) : upd (upd f i x) i y = upd f i y := by funext j; unfold upd; split <;> rfl
theorem upd_self {α : Type} (f : Bool → α) (i : Bool) : upd f i (f i) = f := by
 funext j; unfold upd; split
 ·rename_i e; rw [e]
 ·rfl
theorem upd_at {α : Type} (f : Bool → α) (i : Bool) {x : α} (h : f i = x) : upd f i x = f := by rw [← h, upd_self]
theorem do_lose (b : Aa) (i : Bool) : (By b (loseD i)).1 = Cw b i := by
 have e : By b (loseD i) = two (Ao b (loseD i) true) := rfl
 rw [e]
 show (Ao b (loseD i) true).1 = _
 unfold Ao
 rw [if_neg (show ¬ ((loseD i).n < 0 ∨ 1 < (loseD i).n) from num_in i)]
 show (match b.way (B3 (num i)) with | [] => (b, 6) | p :: _ => if true = true then (Cw b (B3 (num i)), 0) else Co b (B3 (num i)) p : Aa × Int).1 = _
 rw [side_num]
 cases hw : b.way i with
 | nil =>
  show b = Cw b i
  unfold Cw
  rw [hw, List.tail_nil, upd_at _ _ hw]
 | cons p r => rfl
theorem do_send {b : Aa} {i : Bool} (h0 : b.way (!i) = []) (h1 : (b.snd i).kept.length ≤ 40) : (By b (sendD i)).1 = { b with way := upd b.way (!i) ((b.snd i).kept.map (fun t => (⟨t, -1⟩ : Pk)) ++ [⟨Po.zeroT, b.seen i⟩]) } := by
 have e : By b (sendD i) = two (Hd b (sendD i)) := rfl
 rw [e]
 show (Hd b (sendD i)).1 = _
 unfold Hd
 rw [if_neg (show ¬ ((sendD i).n < 0 ∨ 1 < (sendD i).n) from num_in i)]
 show (if 60 < (sent b (B3 (num i))).length then (b, 5) else ({ b with way := upd b.way (!B3 (num i)) (sent b (B3 (num i))) }, 0) : Aa × Int).1 = _
 rw [side_num]
 have hs : sent b i = (b.snd i).kept.map (fun t => (⟨t, -1⟩ : Pk)) ++ [⟨Po.zeroT, b.seen i⟩] := by unfold sent; rw [h0]; rfl
 rw [hs, if_neg (by simp; omega)]
theorem do_arr (b : Aa) (i : Bool) : (By b (Hz i)).1 = match b.way i with | [] => b | p :: _ => (Co b i p).1 := by
 have e : By b (Hz i) = two (Ao b (Hz i) false) := rfl
 rw [e]
 show (Ao b (Hz i) false).1 = _
 unfold Ao
 rw [if_neg (show ¬ ((Hz i).n < 0 ∨ 1 < (Hz i).n) from num_in i)]
 show (match b.way (B3 (num i)) with | [] => (b, 6) | p :: _ => if false = true then (Cw b (B3 (num i)), 0) else Co b (B3 (num i)) p : Aa × Int).1 = _
 rw [side_num]
 cases hw : b.way i with
 | nil => rfl
 | cons p r => dsimp only; rw [if_neg (by simp)]
theorem run_arr_none {b : Aa} {i : Bool} (h : b.way i = []) (n : Nat) : run b (List.replicate n (Hz i)) = b := by
 induction n with
 | zero => rfl
 | succ n ih =>
  have h1 : (By b (Hz i)).1 = b := by rw [do_arr, h]
  rw [List.replicate_succ, Ga, h1, ih]
theorem run_arr {i : Bool} {rest : List Pk} (ts : List Po.Tr) : ∀ (K : Nat) (b : Aa), Cj b → B6 K b → K + ts.length ≤ 900000 → b.way i = ts.map (fun t => (⟨t, -1⟩ : Pk)) ++ rest →
  (∀ (j : Nat) (t : Po.Tr), ts[j]? = some t → t.n = (b.snd (!i)).sent - ts.length + 1 + j) → (b.snd (!i)).sent - ts.length ≤ b.seen i →
  (run b (List.replicate ts.length (Hz i))).snd = b.snd ∧ (run b (List.replicate ts.length (Hz i))).seen = upd b.seen i (b.snd (!i)).sent ∧ (run b (List.replicate ts.length (Hz i))).way = upd b.way i rest := by
 induction ts with
 | nil =>
  intro K b I _ _ hw _ hs
  have h1 := I.sent.seen1 i
  have h2 : b.seen i = (b.snd (!i)).sent := by simp at hs; omega
  exact ⟨rfl, (upd_at b.seen i h2).symm, (upd_at b.way i (by simpa using hw)).symm⟩
 | cons t r ih =>
  intro K b I B hK hw hn hs
  have ht := hn 0 t rfl
  simp only [List.length_cons, Int.natCast_add, Int.natCast_one] at ht hs hK hn
  rw [List.map_cons, List.cons_append] at hw
  have hp := I.sent.ways i ⟨t, -1⟩ (by rw [hw]; exact List.mem_cons_self)
  have hpt : t.n ≤ b.seen i ∨ t ∈ (b.snd (!i)).kept := by
   rcases hp with ⟨-, h⟩ | ⟨h, -⟩
   ·exact h
   ·dsimp only at h; omega
  have hdo : (By b (Hz i)).1 = (Co b i ⟨t, -1⟩).1 := by rw [do_arr, hw]
  have hgw : (Cw b i).way = upd b.way i (r.map (fun t => (⟨t, -1⟩ : Pk)) ++ rest) := by
   unfold Cw; dsimp only; rw [hw, List.tail_cons]
  have I' := do_inv (d := Hz i) I
  have B' := do_bound (d := Hz i) I B
  rw [List.length_cons, List.replicate_succ, Ga]
  by_cases hle : t.n ≤ b.seen i
  ·-- it Cd already
   have h1 : (By b (Hz i)).1 = Cw b i := by
    rw [hdo]; unfold Co
    rw [if_neg (by dsimp only; omega), if_pos (Or.inl (by dsimp only; omega))]
   rw [h1] at I' B' ⊢
   obtain ⟨g1, g2, g3⟩ := ih (K + 1) (Cw b i) I' B' (by omega) (by rw [hgw, B8]) (fun j x hx => by
    have := hn (j + 1) x hx
    show x.n = (b.snd (!i)).sent - r.length + 1 + j
    simp only [Int.natCast_add, Int.natCast_one] at this; omega) (by show (b.snd (!i)).sent - r.length ≤ b.seen i; omega)
   exact ⟨g1, g2, by rw [g3, hgw, upd_upd]⟩
  ·have hk : t ∈ (b.snd (!i)).kept := by
    rcases hpt with h | h
    ·exact absurd h hle
    ·exact h
   have hm := Fe (I.sent.right (!i)) hk
   have hr := (I.sent.right (!i)).hi
   obtain ⟨c1, c2, c3, c4⟩ := comes_ok I B (by omega) hk
   have h1 : (By b (Hz i)).1 = (Fv b i t).1 := by
    rw [hdo]; unfold Co
    rw [if_neg (by dsimp only; omega), if_neg (by dsimp only; omega)]
   rw [h1] at I' B' ⊢
   obtain ⟨g1, g2, g3⟩ := ih (K + 1) (Fv b i t).1 I' B' (by omega) (by rw [c4, hgw, B8]) (fun j x hx => by
    have := hn (j + 1) x hx
    rw [c2]
    simp only [Int.natCast_add, Int.natCast_one] at this; omega) (by rw [c2, c3, B8]; omega)
   refine ⟨by rw [g1, c2], ?_, by rw [g3, c4, hgw, upd_upd]⟩
   rw [g2, c2, c3, upd_upd]
theorem run_side {K : Nat} {b : Aa} {i : Bool} {ts : List Po.Tr} {q : Int} (I : Cj b) (B : B6 K b) (hK : K + ts.length ≤ 900000) (hw : b.way i = ts.map (fun t => (⟨t, -1⟩ : Pk)) ++ [⟨Po.zeroT, q⟩])
  (hn : ∀ (j : Nat) (t : Po.Tr), ts[j]? = some t → t.n = (b.snd (!i)).sent - ts.length + 1 + j) (hs : (b.snd (!i)).sent - ts.length ≤ b.seen i) (n : Nat) (hl : ts.length + 1 ≤ n) (hq : 0 ≤ q) :
  (run b (List.replicate n (Hz i))).snd = upd b.snd i ⟨(b.snd i).sent, Po.those q (b.snd i).kept⟩ ∧ (run b (List.replicate n (Hz i))).seen = upd b.seen i (b.snd (!i)).sent ∧ (run b (List.replicate n (Hz i))).way = upd b.way i [] := by
 obtain ⟨g1, g2, g3⟩ := run_arr ts K b I B hK hw hn hs
 have I1 := run_inv I (List.replicate ts.length (Hz i))
 generalize hb1 : run b (List.replicate ts.length (Hz i)) = b1 at *
 have hsplit : List.replicate n (Hz i) = List.replicate ts.length (Hz i) ++ (Hz i :: List.replicate (n - ts.length - 1) (Hz i)) := by
  rw [← List.replicate_succ, List.replicate_append_replicate]; congr 1; omega
 rw [hsplit, run_append, hb1, Ga]
 have hw1 : b1.way i = [⟨Po.zeroT, q⟩] := by rw [g3, B8]
 have hq2 : q ≤ b1.seen (!i) := by
  rcases I1.sent.ways i ⟨Po.zeroT, q⟩ (by rw [hw1]; exact List.mem_cons_self) with ⟨h, -⟩ | ⟨-, h⟩
  ·dsimp only at h; omega
  ·exact h
 have hq3 := I1.sent.seen1 (!i)
 rw [Fx] at hq3
 have hback : Po.backS (b1.snd i) q = (⟨(b1.snd i).sent, Po.those q (b1.snd i).kept⟩, 0) := Po.backS_ok (Po.wrongS_ok.2 (I1.sent.right i)) (by omega)
 have hdo : (By b1 (Hz i)).1 = { Cw b1 i with snd := upd b1.snd i ⟨(b1.snd i).sent, Po.those q (b1.snd i).kept⟩ } := by
  rw [do_arr, hw1]
  dsimp only
  unfold Co
  rw [if_pos (by dsimp only; exact hq)]
  dsimp only
  rw [hback, if_neg (by simp)]
 rw [hdo, run_arr_none (by show upd b1.way i (b1.way i).tail i = []; rw [B8, hw1]; rfl)]
 refine ⟨?_, ?_, ?_⟩
 ·show upd b1.snd i _ = _
  rw [g1]
 ·show b1.seen = _
  exact g2
 ·show upd b1.way i (b1.way i).tail = _
  rw [hw1, g3, upd_upd]; rfl
def Dm (n : Nat) : List Dd := [sendD false, sendD true] ++ List.replicate n (Hz false) ++ List.replicate n (Hz true)
theorem right_num {s : Po.Se} (R : Po.Right s) : ∀ (j : Nat) (t : Po.Tr), s.kept[j]? = some t → t.n = s.sent - s.kept.length + 1 + j := fun j t h => (R.each j t h).2.2
theorem round_ok {K : Nat} {b : Aa} (I : Cj b) (B : B6 K b) {n : Nat} (hK : K + 2 * n + 10 ≤ 900000) (h0 : ∀ i, b.way i = []) (h1 : ∀ i, (b.snd i).kept.length + 1 ≤ n) :
  (∀ i, (run b (Dm n)).snd i = ⟨(b.snd i).sent, Po.those (b.seen (!i)) (b.snd i).kept⟩) ∧ (∀ i, (run b (Dm n)).seen i = (b.snd (!i)).sent) ∧ ∀ i, (run b (Dm n)).way i = [] := by
 have hk := fun i => (I.sent.right i).few
 unfold Dm
 rw [run_append, run_append]
 have e1 : run b [sendD false, sendD true] = { b with way := fun i => (b.snd (!i)).kept.map (fun t => (⟨t, -1⟩ : Pk)) ++ [⟨Po.zeroT, b.seen (!i)⟩] } := by
  have El : ∀ x : Aa, x.snd = b.snd → x.seen = b.seen → x.way false = [] → (By x (sendD true)).1 = { x with way := upd x.way false ((b.snd true).kept.map (fun t => (⟨t, -1⟩ : Pk)) ++ [⟨Po.zeroT, b.seen true⟩]) } := fun x h1 h2 h3 => by
   have := do_send (b := x) (i := true) h3 (by rw [h1]; exact hk _)
   rw [this, h1, h2]; rfl
  rw [Ga, do_send (h0 _) (hk _), Ga, El { b with way := upd b.way (!false) ((b.snd false).kept.map (fun t => (⟨t, -1⟩ : Pk)) ++ [⟨Po.zeroT, b.seen false⟩]) } rfl rfl (by show upd b.way true ((b.snd false).kept.map (fun t => (⟨t, -1⟩ : Pk)) ++ [⟨Po.zeroT, b.seen false⟩]) false = []; rw [show upd b.way true ((b.snd false).kept.map (fun t => (⟨t, -1⟩ : Pk)) ++ [⟨Po.zeroT, b.seen false⟩]) false = b.way false from Ck b.way true _]; exact h0 _)]
  show ({ b with way := _ } : Aa) = _
  congr 1
  funext i
  cases i <;> rfl
 rw [e1]
 have I1 : Cj { b with way := fun i => (b.snd (!i)).kept.map (fun t => (⟨t, -1⟩ : Pk)) ++ [⟨Po.zeroT, b.seen (!i)⟩] } := by rw [← e1]; exact run_inv I _
 have B1 : B6 (K + 2) { b with way := fun i => (b.snd (!i)).kept.map (fun t => (⟨t, -1⟩ : Pk)) ++ [⟨Po.zeroT, b.seen (!i)⟩] } := by rw [← e1]; exact run_bound I B _
 generalize hb1 : ({ b with way := fun i => (b.snd (!i)).kept.map (fun t => (⟨t, -1⟩ : Pk)) ++ [⟨Po.zeroT, b.seen (!i)⟩] } : Aa) = b1 at *
 have hs1 : b1.snd = b.snd := by rw [← hb1]
 have hn1 : b1.seen = b.seen := by rw [← hb1]
 have hw1 : ∀ i, b1.way i = (b.snd (!i)).kept.map (fun t => (⟨t, -1⟩ : Pk)) ++ [⟨Po.zeroT, b.seen (!i)⟩] := fun i => by rw [← hb1]
 have ht := h1 true
 have hf := h1 false
 obtain ⟨g1, g2, g3⟩ := run_side (i := false) I1 B1 (by simp; omega) (hw1 false) (by rw [hs1]; exact right_num (I.sent.right _)) (by rw [hs1, hn1]; exact I.sent.keeps true) n (by simpa using ht) (I.sent.seen0 _)
 have I2 := run_inv I1 (List.replicate n (Hz false))
 have B2 := run_bound I1 B1 (List.replicate n (Hz false))
 rw [List.length_replicate] at B2
 generalize run b1 (List.replicate n (Hz false)) = b2 at *
 have hs2 : (b2.snd false).sent = (b.snd false).sent := by rw [g1, B8, hs1]
 have hw2 : b2.way true = (b.snd false).kept.map (fun t => (⟨t, -1⟩ : Pk)) ++ [⟨Po.zeroT, b.seen false⟩] := by
  rw [g3]
  have : upd b1.way false [] true = b1.way true := Ck b1.way false _
  rw [this, hw1]; rfl
 have hn2 : b2.seen true = b.seen true := by
  rw [g2]
  have : upd b1.seen false (b1.snd (!false)).sent true = b1.seen true := Ck b1.seen false _
  rw [this, hn1]
 obtain ⟨k1, k2, k3⟩ := run_side (i := true) I2 B2 (by omega) hw2 (by show ∀ (j : Nat) (t : Po.Tr), _ → t.n = (b2.snd false).sent - _ + 1 + _; rw [hs2]; exact right_num (I.sent.right _)) (by show (b2.snd false).sent - _ ≤ _; rw [hs2, hn2]; exact I.sent.keeps false) n (by omega) (I.sent.seen0 _)
 have hst : b2.snd true = b.snd true := by
  rw [g1]
  have : upd b1.snd false ⟨(b1.snd false).sent, Po.those (b.seen (!false)) (b1.snd false).kept⟩ true = b1.snd true := Ck b1.snd false _
  rw [this, hs1]
 refine ⟨fun i => ?_, fun i => ?_, fun i => ?_⟩
 ·rw [k1]
  cases i with
  | true => rw [B8, hst]; rfl
  | false =>
   have : upd b2.snd true ⟨(b2.snd true).sent, Po.those (b.seen false) (b2.snd true).kept⟩ false = b2.snd false := Ck b2.snd true _
   rw [this, g1, B8, hs1]
 ·rw [k2]
  cases i with
  | true => rw [B8]; exact hs2
  | false =>
   have : upd b2.seen true (b2.snd (!true)).sent false = b2.seen false := Ck b2.seen true _
   rw [this, g2, B8, hs1]
 ·rw [k3]
  cases i with
  | true => rw [B8]
  | false =>
   have : upd b2.way true [] false = b2.way false := Ck b2.way true _
   rw [this, g3, B8]
def Eh (k : Nat) (a : Au.Au) : Int := if a.shop = (k : Int) then a.cap - a.ref else 0
def shopA (l : List Au.Au) (n : Int) : Int := (l.getD n.toNat zA).shop
def brings (l : List Au.Au) (k : Nat) (t : Po.Tr) : Int := if shopA l t.a = (k : Int) then (if t.k = 1 then t.s else if t.k = 3 then -t.s else 0) else 0
def D9 (l : List Au.Au) (k : Nat) (Cd : Int) (t : Po.Tr) : Int := if Cd < t.n then brings l k t else 0
def bal (k : Nat) (b : Aa) : Int := b.due.getD k 0 - Af (Eh k) b.auths + Af (D9 b.auths k (b.seen true)) (b.snd false).kept
theorem pend_those (l : List Au.Au) (k : Nat) {s Cd : Int} (h : s ≤ Cd) (L : List Po.Tr) : Af (D9 l k Cd) (Po.those s L) = Af (D9 l k Cd) L := by
 unfold Po.those
 induction L with
 | nil => rfl
 | cons t r ih =>
  by_cases e : s < t.n
  ·rw [List.filter_cons_of_pos (by simpa using e)]
   simp only [Af, ih]
  ·rw [List.filter_cons_of_neg (by simpa using e), ih]
   simp only [Af]
   unfold D9
   rw [if_neg (by omega)]; omega
theorem pend_more (l : List Au.Au) (k : Nat) {s : Po.Se} (R : Po.Right s) {t : Po.Tr} (ht : t ∈ s.kept) {Cd : Int} (hn : t.n = Cd + 1) : Af (D9 l k (Cd + 1)) s.kept = Af (D9 l k Cd) s.kept - brings l k t := by
 rw [sum_one (right_rise R) ht (f := D9 l k (Cd + 1)) (g := D9 l k Cd)]
 ·unfold D9
  rw [if_neg (by omega), if_pos (by omega)]; omega
 ·intro x _ hx
  unfold D9
  by_cases h1 : Cd < x.n
  ·rw [if_pos h1, if_pos (by omega)]
  ·rw [if_neg h1, if_neg (by omega)]
theorem pend_stays {b x : Aa} (h : Stays b x) (k : Nat) (Cd : Int) {L : List Po.Tr} (hL : ∀ t ∈ L, 0 ≤ t.a ∧ t.a < b.auths.length) : Af (D9 x.auths k Cd) L = Af (D9 b.auths k Cd) L :=
 sumOn_congr fun t ht => by
  have := h.2 t.a.toNat (by have := hL t ht; omega)
  unfold D9 brings shopA
  rw [this]
theorem kept_in {b : Aa} (I : Cj b) (i : Bool) : ∀ t ∈ (b.snd i).kept, 0 ≤ t.a ∧ t.a < b.auths.length := fun t ht => by
 have h1 := (Fe (I.sent.right i) ht).2.1
 unfold Po.far at h1
 exact ⟨by omega, I.sent.auths i t ht⟩
theorem bal_still {b x : Aa} (I : Cj b) (k : Nat) (h1 : x.due = b.due) (h2 : Af (Eh k) x.auths = Af (Eh k) b.auths) (h3 : Stays b x) (h4 : x.seen true = b.seen true) (h5 : (x.snd false).kept = (b.snd false).kept) : bal k x = bal k b := by
 unfold bal
 rw [h1, h2, h4, h5, pend_stays h3 k _ (kept_in I false)]
theorem Hp {b x : Aa} (I : Cj b) (k : Nat) (h1 : x.due = b.due) (h2 : x.auths = b.auths) (h4 : x.seen true = b.seen true) (h5 : (x.snd false).kept = (b.snd false).kept) : bal k x = bal k b :=
 bal_still I k h1 (by rw [h2]) (Cr h2) h4 h5
theorem load_bal {b : Aa} {d : Dd} (I : Cj b) (k : Nat) : bal k (Ff b d).1 = bal k b := by
 unfold Ff
 repeat' split
 all_goals exact Hp I k rfl rfl rfl rfl
theorem ask_bal {b : Aa} {d : Dd} (I : Cj b) (k : Nat) : bal k (askB b d).1 = bal k b := by
 unfold askB Dx Hf
 split
 ·rfl
 split
 ·split
  ·rfl
  ·split
   ·rfl
   ·exact Hp I k rfl rfl rfl rfl
 ·split
  ·rfl
  ·rename_i h2
   split
   ·rfl
   ·split
    ·rfl
    ·obtain ⟨n1, -⟩ := newA_zero (Decidable.not_not.1 h2)
     refine bal_still I k rfl ?_ (stays_append rfl) rfl rfl
     show Af (Eh k) (b.auths ++ [_]) = _
     rw [Cb, Di, n1]
     unfold Eh; dsimp only
     split <;> omega
theorem shut_bal {b : Aa} (I : Cj b) (k : Nat) : bal k (shutB b) = bal k b := by
 refine bal_still I k rfl ?_ (stays_shut b) rfl rfl
 show Af (Eh k) (b.auths.map _) = _
 rw [Ic]; rfl
theorem tick_bal {b : Aa} {d : Dd} (I : Cj b) (k : Nat) (h : (Fs b d).2 = 0) : bal k (Fs b d).1 = bal k b := by
 have h0 := h
 unfold Fs at h ⊢
 split
 ·rfl
 ·rename_i h1
  rw [if_neg h1] at h
  have I' : Cj { b with time := b.time + d.sum } := by
   obtain ⟨H, S, B⟩ := I
   refine ⟨⟨H.cards8, H.due8, H.right, H.few, H.auths, H.held, H.stand, H.standN, fun x hx => ⟨(H.advs x hx).1, ?_⟩, H.noadv, ?_, ?_, H.today⟩, ⟨S.right, S.seen0, S.seen1, S.keeps, S.auths, S.kind0, S.kind1, S.ways, S.way60⟩, ⟨B.right, B.accC, B.accS, B.acc1, B.acc2⟩⟩
   ·have := (H.advs x hx).2; show x.t ≤ b.time + d.sum; omega
   ·have := H.time0; show 0 ≤ b.time + d.sum; omega
   ·show b.time + d.sum ≤ 1000000; omega
  split
  ·exact Hp I k rfl rfl rfl rfl
  ·exact (shut_bal I' k).trans (Hp I k rfl rfl rfl rfl)
theorem up_bal {b : Aa} (I : Cj b) (k : Nat) : bal k (upB b).1 = bal k b := by
 unfold upB
 split
 ·rename_i h1
  refine (shut_bal (up_mid I h1) k).trans ?_
  refine bal_still I k rfl ?_ (stays_append rfl) rfl rfl
  show Af (Eh k) (b.auths ++ b.stand.adv.map Hi) = _
  rw [Cb, Ic, sumOn_zero (f := fun x => Eh k (Hi x)) (fun x _ => by unfold Eh Hi; dsimp only; split <;> omega)]; omega
 ·rfl
theorem pay_bal {b : Aa} {d : Dd} (k : Nat) (h : (payB b d).2 = 0) : bal k (payB b d).1 = bal k b - (if d.n = (k : Int) then b.dueOf d.n else 0) := by
 unfold payB at h ⊢
 split at h
 ·cases h
 rename_i h1
 rw [if_neg h1]
 split at h
 ·cases h
 rename_i h2
 rw [if_neg h2]
 split at h
 ·rename_i h3; exact absurd h h3
 rename_i h3
 rw [if_neg h3]
 show (b.due.set d.n.toNat 0).getD k 0 - _ + _ = bal k b - _
 rw [B5 _ _ _ _ _ (by omega)]
 unfold bal
 by_cases e : d.n.toNat = k
 ·rw [if_pos e, if_pos (by omega)]; unfold Aa.dueOf; rw [e]; dsimp only; omega
 ·rw [if_neg e, if_neg (by omega)]; dsimp only; omega
theorem comes_bal {b : Aa} {i : Bool} {t : Po.Tr} (I : Cj b) (k : Nat) (ht : t ∈ (b.snd (!i)).kept) (hn : t.n = b.seen i + 1) (h : (Fv b i t).2 = 0) : bal k (Fv b i t).1 = bal k b := by
 have hin := kept_in I (!i) t ht
 obtain ⟨r1, -, -, r4⟩ := I.held.auth hin.1 hin.2
 have hs0 : 0 ≤ (b.auth t.a).shop := r1.2.2.2.2.2.1.1
 have hsi : (b.auth t.a).shop.toNat < b.due.length := by omega
 have hsh : shopA b.auths t.a = (b.auth t.a).shop := rfl
 unfold Fv at h ⊢
 cases i with
 | false =>
  have hk := I.sent.kind1 t ht
  rw [if_neg (by omega), if_pos hk] at h ⊢
  split at h
  ·rename_i q; exact absurd h q
  rename_i q
  rw [if_neg q]
  split at h
  ·rename_i q2; exact absurd h q2
  rename_i q2
  rw [if_neg q2]
  refine Hp I k rfl rfl ?_ rfl
  show upd b.seen false (b.seen false + 1) true = b.seen true
  exact Ck b.seen false _
 | true =>
  have hp := pend_more b.auths k (I.sent.right false) ht hn
  have hse : upd b.seen true (b.seen true + 1) true = b.seen true + 1 := B8 _ _ _
  rcases I.sent.kind0 t ht with hk | hk
  ·rw [if_pos hk] at h ⊢
   split at h
   ·rename_i q; exact absurd h q
   rename_i q
   rw [if_neg q]
   show (b.due.set (b.auth t.a).shop.toNat _).getD k 0 - Af (Eh k) b.auths + Af (D9 b.auths k (upd b.seen true (b.seen true + 1) true)) (b.snd false).kept = bal k b
   rw [hse, hp, B5 _ _ _ _ _ hsi]
   unfold bal brings
   rw [hsh, if_pos hk]
   by_cases e : (b.auth t.a).shop.toNat = k
   ·rw [if_pos e, if_pos (by omega)]; unfold Aa.dueOf; rw [e]; omega
   ·rw [if_neg e, if_neg (by omega)]; omega
  ·rw [if_neg (by omega), if_neg (by omega), if_pos hk] at h ⊢
   split at h
   ·rename_i q; exact absurd h q
   rename_i q
   rw [if_neg q]
   show (b.due.set (b.auth t.a).shop.toNat _).getD k 0 - Af (Eh k) b.auths + Af (D9 b.auths k (upd b.seen true (b.seen true + 1) true)) (b.snd false).kept = bal k b
   rw [hse, hp, B5 _ _ _ _ _ hsi]
   unfold bal brings
   rw [hsh, if_neg (show ¬ t.k = 1 by omega), if_pos hk]
   by_cases e : (b.auth t.a).shop.toNat = k
   ·rw [if_pos e, if_pos (by omega)]; unfold Aa.dueOf; rw [e]; omega
   ·rw [if_neg e, if_neg (by omega)]; omega
theorem arrive_bal {b : Aa} {d : Dd} {lost : Bool} (I : Cj b) (k : Nat) (h : (Ao b d lost).2 = 0) : bal k (Ao b d lost).1 = bal k b := by
 unfold Ao at h ⊢
 by_cases h1 : d.n < 0 ∨ 1 < d.n
 ·rw [if_pos h1]
 rw [if_neg h1] at h ⊢
 generalize B3 d.n = i at *
 cases hw : b.way i with
 | nil => rfl
 | cons p r =>
  rw [hw] at h
  dsimp only at h ⊢
  cases lost with
  | true => rw [if_pos rfl]; exact Hp (x := Cw b i) I k rfl rfl rfl rfl
  | false =>
   rw [if_neg (by simp)] at h ⊢
   have hp := I.sent.ways i p (by rw [hw]; exact List.mem_cons_self)
   unfold Co at h ⊢
   by_cases h2 : 0 ≤ p.seen
   ·rw [if_pos h2] at h ⊢
    split at h
    ·rename_i h3; exact absurd h h3
    rename_i h3
    rw [if_neg h3]
    obtain ⟨-, -, -, hb⟩ := backS_zero (Decidable.not_not.1 h3)
    have hn : p.seen ≤ b.seen (!i) := by
     rcases hp with ⟨g1, -⟩ | ⟨-, g2⟩
     ·omega
     ·exact g2
    show b.due.getD k 0 - Af (Eh k) b.auths + Af (D9 b.auths k (b.seen true)) (upd b.snd i (Po.backS (b.snd i) p.seen).1 false).kept = bal k b
    unfold bal
    cases i with
    | true =>
     have : upd b.snd true (Po.backS (b.snd true) p.seen).1 false = b.snd false := Ck b.snd true _
     rw [this]
    | false =>
     rw [B8, hb]
     show _ + Af _ (Po.those p.seen (b.snd false).kept) = _
     have hn2 : p.seen ≤ b.seen true := hn
     rw [pend_those _ _ hn2]
   ·rw [if_neg h2] at h ⊢
    by_cases h3 : p.t.n ≠ b.seen i + 1 ∨ 1000000 ≤ b.seen i
    ·rw [if_pos h3]; exact Hp I k rfl rfl rfl rfl
    ·rw [if_neg h3] at h ⊢
     refine comes_bal I k ?_ (by omega) h
     rcases hp with ⟨-, g1 | g1⟩ | ⟨g1, -⟩
     ·omega
     ·exact g1
     ·omega
def captD (k n : Int) : Int := if k = 2 ∨ k = 3 then n else if k = 5 ∨ k = 7 then -n else 0
theorem step_capt {a : Au.Au} {k n : Int} (h1 : 1 ≤ k) (h2 : k ≤ 8) : (Au.step a k n).cap - (Au.step a k n).ref = a.cap - a.ref + captD k n := by
 unfold captD
 rcases eight h1 h2 with rfl | rfl | rfl | rfl | rfl | rfl | rfl | rfl <;> simp [Au.step] <;> omega
def pendD (k n : Int) : Int := if k = 2 ∨ k = 3 then n else if k = 7 then -n else 0
theorem put_pend {b : Aa} (S : Sent b) (l : List Au.Au) (k : Nat) {t : Po.Tr} (h : (Po.putS (b.snd false) t).2 = 0) :
  Af (D9 l k (b.seen true)) (Po.putS (b.snd false) t).1.kept = Af (D9 l k (b.seen true)) (b.snd false).kept + brings l k t := by
 obtain ⟨p1, -⟩ := put_zero h
 rw [p1]
 show Af _ ((b.snd false).kept ++ [Po.nextT (b.snd false) t]) = _
 rw [Cb, Di]
 have hc : b.seen true < (Po.nextT (b.snd false) t).n := by
  have := S.seen1 true
  show _ < (b.snd false).sent + 1
  simp only [Bool.not_true] at this; omega
 have : D9 l k (b.seen true) (Po.nextT (b.snd false) t) = brings l k t := by unfold D9; rw [if_pos hc]; rfl
 rw [this]
theorem send_pend {b : Aa} (S : Sent b) (l : List Au.Au) (k : Nat) {kind auth n : Int} (h : (Aw b.snd kind auth n).2 = 0) :
  Af (D9 l k (b.seen true)) ((Aw b.snd kind auth n).1 false).kept = Af (D9 l k (b.seen true)) (b.snd false).kept + (if shopA l auth = (k : Int) then pendD kind n else 0) := by
 unfold Aw at h ⊢
 unfold pendD
 by_cases k1 : kind = 2 ∨ kind = 3
 ·rw [if_pos k1] at h ⊢
  dsimp only
  rw [B8, put_pend S l k h, if_pos k1]
  unfold brings; dsimp only; simp
 rw [if_neg k1] at h ⊢
 by_cases k2 : kind = 5
 ·rw [if_pos k2] at h ⊢
  dsimp only
  have : upd b.snd true (Po.putS (b.snd true) ⟨0, 2, auth, n⟩).1 false = b.snd false := Ck b.snd true _
  rw [this, if_neg k1, if_neg (show ¬ kind = 7 by omega)]; simp
 rw [if_neg k2] at h ⊢
 by_cases k3 : kind = 7
 ·rw [if_pos k3] at h ⊢
  dsimp only
  rw [B8, put_pend S l k h, if_neg k1, if_pos k3]
  unfold brings; dsimp only; simp
 rw [if_neg k3] at h ⊢
 rw [if_neg k1, if_neg k3]; simp
theorem move_bal {b : Aa} {d : Dd} (I : Cj b) (k : Nat) (h : (Eu b d).2 = 0) : bal k (Eu b d).1 = bal k b := by
 unfold Eu at h ⊢
 split at h
 ·cases h
 rename_i q1
 rw [if_neg q1]
 split at h
 ·cases h
 rename_i q2
 rw [if_neg q2]
 split at h
 ·rename_i q; exact absurd h q
 rename_i q3
 rw [if_neg q3]
 split at h
 ·cases h
 rename_i q4
 rw [if_neg q4]
 split at h
 ·rename_i q; exact absurd h q
 rename_i q5
 rw [if_neg q5]
 split at h
 ·rename_i q; exact absurd h q
 rename_i q6
 rw [if_neg q6]
 split at h
 ·rename_i q; exact absurd h q
 rename_i q7
 rw [if_neg q7]
 split at h
 ·cases h
 rename_i q8
 rw [if_neg q8]
 replace q3 := Au.mvErr_zero.1 (Decidable.not_not.1 q3)
 replace q7 : (Aw b.snd d.mv d.n d.sum).2 = 0 := Decidable.not_not.1 q7
 have hn : d.n.toNat < b.auths.length := by omega
 obtain ⟨r1, -, -, r4⟩ := I.held.auth (k := d.n) (by omega) (by omega)
 have hs0 : 0 ≤ (b.auth d.n).shop := r1.2.2.2.2.2.1.1
 have hsi : (b.auth d.n).shop.toNat < b.due.length := by omega
 have k1 := q3.2.2.1
 have k2 := q3.2.2.2.1
 have hst : Stays b (Bt b d) := stays_set hn rfl
 have hpx : Af (D9 (Bt b d).auths k (b.seen true)) ((Aw b.snd d.mv d.n d.sum).1 false).kept = Af (D9 b.auths k (b.seen true)) ((Aw b.snd d.mv d.n d.sum).1 false).kept := by
  obtain ⟨w0, -⟩ := send_zero (x := Bt b d) I.sent q7 (by omega) rfl rfl rfl (by simp [Bt])
  refine pend_stays hst k _ fun t ht => ?_
  have h1 := (Fe (w0.right false) ht).2.1
  unfold Po.far at h1
  have h2 := w0.auths false t ht
  have h3 : (Bt b d).auths.length = b.auths.length := by simp [Bt]
  exact ⟨by omega, by omega⟩
 have hcap : Af (Eh k) (b.auths.set d.n.toNat (Fz b d)) = Af (Eh k) b.auths + (if (b.auth d.n).shop = (k : Int) then captD d.mv d.sum else 0) := by
  rw [sumOn_set _ _ _ _ zA hn]
  have e1 : (Fz b d).shop = (b.auth d.n).shop := step_shop _ _ _
  have e2 : (Fz b d).cap - (Fz b d).ref = (b.auth d.n).cap - (b.auth d.n).ref + captD d.mv d.sum := step_capt k1 k2
  have e3 : Eh k (b.auths.getD d.n.toNat zA) = Eh k (b.auth d.n) := rfl
  rw [e3]
  unfold Eh
  rw [e1, e2]
  split <;> omega
 show (b.due.set (b.auth d.n).shop.toNat _).getD k 0 - Af (Eh k) (b.auths.set d.n.toNat (Fz b d)) + Af (D9 (Bt b d).auths k (b.seen true)) ((Aw b.snd d.mv d.n d.sum).1 false).kept = bal k b
 rw [hpx, send_pend I.sent b.auths k q7, hcap, B5 _ _ _ _ _ hsi]
 have hsh : shopA b.auths d.n = (b.auth d.n).shop := rfl
 rw [hsh]
 unfold bal
 by_cases e : (b.auth d.n).shop.toNat = k
 ·rw [if_pos e, if_pos (by omega), if_pos (by omega)]
  have : b.dueOf (b.auth d.n).shop = b.due.getD k 0 := by unfold Aa.dueOf; rw [e]
  rw [this]
  have hz : dueBy d.mv d.sum - captD d.mv d.sum + pendD d.mv d.sum = 0 := by
   unfold dueBy captD pendD
   generalize d.mv = mv at *
   rcases eight k1 k2 with rfl | rfl | rfl | rfl | rfl | rfl | rfl | rfl <;> simp <;> omega
  omega
 ·rw [if_neg e, if_neg (by omega), if_neg (by omega)]; omega
def paysOut (b : Aa) (d : Dd) (k : Nat) : Int := if d.kind = 11 ∧ (By b d).2.1 = 0 ∧ d.n = (k : Int) then b.dueOf d.n else 0
theorem do_bal {b : Aa} {d : Dd} (I : Cj b) (k : Nat) : bal k (By b d).1 = bal k b - paysOut b d k := by
 by_cases h : (By b d).2.1 = 0
 case neg => rw [Db b d h]; unfold paysOut; rw [if_neg (fun hp => h hp.2.1)]; omega
 have hother : d.kind ≠ 11 → bal k (By b d).1 = bal k b → bal k (By b d).1 = bal k b - paysOut b d k := fun h1 h2 => by
  rw [h2]; unfold paysOut; rw [if_neg (fun hp => h1 hp.1)]; omega
 by_cases k11 : d.kind = 11
 ·have e : By b d = two (payB b d) := by
   unfold By
   rw [if_neg (by omega), if_neg (by omega), if_neg (by omega), if_neg (by omega), if_neg (by omega), if_neg (by omega), if_neg (by omega), if_neg (by omega), if_neg (by omega), if_neg (by omega), if_pos k11]
  unfold paysOut
  rw [e] at h ⊢
  rw [show bal k (two (payB b d)).1 = bal k (payB b d).1 from rfl, pay_bal k h]
  by_cases hk : d.n = (k : Int)
  ·rw [if_pos hk, if_pos ⟨k11, h, hk⟩]
  ·rw [if_neg hk, if_neg (fun hp => hk hp.2.2)]
 refine hother k11 ?_
 unfold By at h ⊢
 split at h
 ·rename_i e; rw [if_pos e]; exact load_bal I k
 rename_i e; rw [if_neg e]
 split at h
 ·rename_i e; rw [if_pos e]; exact ask_bal I k
 rename_i e; rw [if_neg e]
 split at h
 ·rename_i e; rw [if_pos e]; exact move_bal I k h
 rename_i e; rw [if_neg e]
 split at h
 ·rename_i e; rw [if_pos e]; exact tick_bal I k h
 rename_i e; rw [if_neg e]
 split at h
 ·rename_i e; rw [if_pos e]
  unfold two Hd
  repeat' split
  all_goals exact Hp I k rfl rfl rfl rfl
 rename_i e; rw [if_neg e]
 split at h
 ·rename_i e; rw [if_pos e]; exact arrive_bal I k h
 rename_i e; rw [if_neg e]
 split at h
 ·rename_i e; rw [if_pos e]; exact arrive_bal I k h
 rename_i e; rw [if_neg e]
 split at h
 ·rename_i e; rw [if_pos e]
  unfold two downB
  repeat' split
  all_goals exact Hp I k rfl rfl rfl rfl
 rename_i e; rw [if_neg e]
 split at h
 ·rename_i e; rw [if_pos e]; exact up_bal I k
 rename_i e; rw [if_neg e]
 split at h
 ·rename_i e; rw [if_pos e]; exact Hp I k rfl rfl rfl rfl
 rename_i e; rw [if_neg e, if_neg k11]
def zD : Dd := ⟨0, 0, 0, 0, 0, 0⟩
theorem take_snoc (l : List Dd) {i : Nat} (hi : i < l.length) : l.take (i + 1) = l.take i ++ [l.getD i zD] := by
 rw [List.take_add_one]; simp [List.getD, hi]
theorem start_bal (paces : List Pa) (shops : Nat) (cap : Int) (k : Nat) : bal k (Av paces shops cap) = 0 := by
 show (List.replicate shops (0 : Int)).getD k 0 - 0 + 0 = 0
 by_cases h : k < shops
 ·simp [List.getD, h]
 ·simp [List.getD, h]
theorem due_end {b : Aa} (k : Nat) (h : (b.snd false).kept = []) : b.due.getD k 0 = Af (Eh k) b.auths + bal k b := by
 unfold bal
 rw [h]
 show _ = _ + (_ - _ + 0)
 omega
