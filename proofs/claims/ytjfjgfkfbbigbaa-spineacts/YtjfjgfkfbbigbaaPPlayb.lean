/- SpineActs: the law's memory beside its space. -/
import Derived.Test.YtjfjgfkfbbigbaaPPlay
namespace Go.Proofs.Ytjfjgfkfbbigbaa
open Go.RowKit
structure Play (B : Nat) (w0 w : World) (P : Nat → Prop) (s b W y : Nat) (half : Int) (v : Value) (bg : Int) (un : Bool) (L : List Rec) (q : St) (V : Int → Int → Int) (c : Int → Int) : Prop where
  gd : Gd w P s b W 3 q V c
  own : ∀ k, P k → B ≤ k
  lt : ∀ k, P k → k < w.heap.size
  bel : Below B w0 w
  size : B ≤ w.heap.size
  here : Here w y s b half v bg un
  row : Recs w B v L
  words : ∀ x ∈ L, w.rowIs x.blk 3 x.n (fun j => .int .i64 (x.F j)) ∧ ¬ P x.blk ∧ B ≤ x.blk
  apart : L.Pairwise fun x z => x.blk ≠ z.blk
  py : ¬ P y ∧ B ≤ y
  pv : ∀ k, v.ownBlock = some k → ¬ P k
theorem Recs.of_block {w w' : World} {B : Nat} {v : Value} {L : List Rec} (h : Recs w B v L) (e : ∀ k, v.ownBlock = some k → w'.heap[k]? = w.heap[k]?) : Recs w' B v L := by
  refine ⟨h.1, ?_⟩
  rcases h.2 with r | ⟨g, cap, cur, rfl, h1, h2, h3⟩
  · exact .inl r
  · exact .inr ⟨g, cap, cur, rfl, h1, (e g rfl).trans h2, h3⟩
theorem Recs.lt {w : World} {B : Nat} {v : Value} {L : List Rec} (h : Recs w B v L) {k : Nat} (hk : v.ownBlock = some k) : B ≤ k ∧ k < w.heap.size := World.ownsRow.lt h k hk
theorem Here.lt {w : World} {y s b : Nat} {half : Int} {v : Value} {bg : Int} {un : Bool} (h : Here w y s b half v bg un) : y < w.heap.size := (Array.getElem?_eq_some_iff.1 h).1
theorem Recs.kind {w : World} {B : Nat} {v : Value} {L : List Rec} (h : Recs w B v L) {k : Nat} (hk : v.ownBlock = some k) : ∃ cur, w.heap[k]? = some (.cells cur 38 (0, 0)) := by
  rcases h.2 with ⟨rfl, _⟩ | ⟨g, cap, cur, rfl, _, h2, _⟩
  · simp [Value.ownBlock] at hk
  · simp only [Value.ownBlock, Option.some.injEq] at hk
    subst hk
    exact ⟨cur, h2⟩
section
variable {B : Nat} {w0 w : World} {P : Nat → Prop} {s b W y : Nat} {half : Int} {v : Value} {bg : Int} {un : Bool} {L : List Rec} {q : St} {V : Int → Int → Int} {c : Int → Int}
theorem Play.y_v (h : Play B w0 w P s b W y half v bg un L q V c) {k : Nat} (hk : v.ownBlock = some k) : k ≠ y := by
  rintro rfl
  obtain ⟨cur, hc⟩ := h.row.kind hk
  have h1 : w.heap[k]? = _ := h.here
  rw [hc] at h1; simp at h1
theorem Play.y_x (h : Play B w0 w P s b W y half v bg un L q V c) {x : Rec} (hx : x ∈ L) : x.blk ≠ y := by
  intro e
  obtain ⟨cur, hc, _⟩ := (h.words x hx).1
  have h1 : w.heap[y]? = _ := h.here
  rw [e] at hc
  rw [hc] at h1; simp at h1
theorem Play.v_x (h : Play B w0 w P s b W y half v bg un L q V c) {x : Rec} (hx : x ∈ L) {k : Nat} (hk : v.ownBlock = some k) : k ≠ x.blk := by
  rintro rfl
  obtain ⟨cur, hc⟩ := h.row.kind hk
  obtain ⟨cur2, hc2, _⟩ := (h.words x hx).1
  rw [hc] at hc2; simp at hc2
theorem Play.below {w' : World} (h : Play B w0 w P s b W y half v bg un L q V c) (hb : Below w.heap.size w w') : Play B w0 w' P s b W y half v bg un L q V c :=
  ⟨h.gd.below hb, h.own, fun k hk => Nat.lt_of_lt_of_le (h.lt k hk) hb.size, h.bel.trans (hb.mono h.size), Nat.le_trans h.size hb.size, (hb.block _ h.here.lt).trans h.here, h.row.of_block fun k hk => hb.block k (h.row.lt hk).2, fun x hx => ⟨(h.words x hx).1.of_block (hb.block _ (h.words x hx).1.lt), (h.words x hx).2⟩, h.apart, h.py, h.pv⟩
/-- A call of the space's. -/
theorem Play.turn2 {w' : World} {q' : St} {V' : Int → Int → Int} {c' : Int → Int} (h : Play B w0 w P s b W y half v bg un L q V c) (ht : Turn w P s b W 3 q' V' c' w') : ∃ P', Play B w0 w' P' s b W y half v bg un L q' V' c' ∧ ∀ k, k < w.heap.size → ¬ P k → ¬ P' k := by
  obtain ⟨P', hg, hB, hW⟩ := ht
  have far : ∀ k, k < w.heap.size → ¬ P k → ¬ (P' k ∧ k < w'.heap.size) := fun k hk hn r => (hW k r.1).elim hn (fun r => by omega)
  refine ⟨_, ⟨hg.shrink, fun k hk => (hW k hk.1).elim (h.own k) (fun r => Nat.le_trans h.size r), fun k hk => hk.2, hB.under h.bel h.size h.own, Nat.le_trans h.size hB.size, (hB.block _ h.here.lt h.py.1).trans h.here, h.row.of_block fun k hk => hB.block k (h.row.lt hk).2 (h.pv k hk), fun x hx => ?_, h.apart, ⟨far _ h.here.lt h.py.1, h.py.2⟩, fun k hk => far k (h.row.lt hk).2 (h.pv k hk)⟩, far⟩
  obtain ⟨a, b, d⟩ := h.words x hx
  exact ⟨a.of_block (hB.block _ a.lt b), far _ a.lt b, d⟩
theorem Play.turn {w' : World} {q' : St} {V' : Int → Int → Int} {c' : Int → Int} (h : Play B w0 w P s b W y half v bg un L q V c) (ht : Turn w P s b W 3 q' V' c' w') : ∃ P', Play B w0 w' P' s b W y half v bg un L q' V' c' := by
  obtain ⟨P', h1, _⟩ := h.turn2 ht
  exact ⟨P', h1⟩
/-- Any change of memory that leaves the space's own blocks as they are. -/
theorem Play.remake {w' : World} {half' : Int} {v' : Value} {bg' : Int} {un' : Bool} {L' : List Rec} (h : Play B w0 w P s b W y half v bg un L q V c) {r : Nat → Prop} (hs : w.heap.size ≤ w'.heap.size) (ho : w'.os = w.os ∧ w'.tape = w.tape ∧ w'.output = w.output) (hb : ∀ k, k < w.heap.size → ¬ r k → w'.heap[k]? = w.heap[k]?) (hr : ∀ k, r k → ¬ P k ∧ B ≤ k)
    (h1 : Here w' y s b half' v' bg' un') (h2 : Recs w' B v' L') (h3 : ∀ x ∈ L', w'.rowIs x.blk 3 x.n (fun j => .int .i64 (x.F j)) ∧ ¬ P x.blk ∧ B ≤ x.blk) (h4 : L'.Pairwise fun x z => x.blk ≠ z.blk) (h5 : ∀ k, v'.ownBlock = some k → ¬ P k) :
    Play B w0 w' P s b W y half' v' bg' un' L' q V c := by
  obtain ⟨hW, bw, bs, vv, f, hS, hI⟩ := h.gd
  obtain ⟨o1, o2, o3, o4, o5⟩ := hS.own
  have e : ∀ k, P k → w'.heap[k]? = w.heap[k]? := fun k hk => hb k (h.lt k hk) (fun q => (hr k q).1 hk)
  refine ⟨⟨hW, bw, bs, vv, f, ⟨(e s o1).trans hS.here, ⟨(e b o2).trans hS.ar.here, hS.ar.words.of_block (e _ o3), hS.ar.steps.of_block (e _ o4), hS.ar.part⟩, hS.row.of_block fun k hk => e k (o5 k hk), hS.own⟩, hI⟩, h.own, fun k hk => Nat.lt_of_lt_of_le (h.lt k hk) hs, h.bel.trans ⟨ho.1, ho.2.1, ho.2.2, hs, fun k hk => hb k (by have := h.size; omega) (fun q => by have := (hr k q).2; omega)⟩, Nat.le_trans h.size hs, h1, h2, h3, h4, h.py, h5⟩
/-- A store into the law's struct. -/
theorem Play.poke (h : Play B w0 w P s b W y half v bg un L q V c) (k : Nat) (x : Value) {half' : Int} {bg' : Int} {un' : Bool}
    (e : (#[.pointer (some ⟨s, 0, none⟩), .pointer (some ⟨b, 0, none⟩), .int .i64 half, v, .int .i64 bg, .bool un] : Array Value).setIfInBounds k x = #[.pointer (some ⟨s, 0, none⟩), .pointer (some ⟨b, 0, none⟩), .int .i64 half', v, .int .i64 bg', .bool un']) :
    Play B w0 (w.setCell ⟨y, k, none⟩ x) P s b W y half' v bg' un' L q V c := by
  refine h.remake (r := fun j => j = y) (by simp [World.setCell]) ⟨rfl, rfl, rfl⟩ (fun j _ hj => Below.heap_setCell _ _ _ _ hj) (fun j hj => hj ▸ h.py) ?_ (h.row.of_block fun j hj => Below.heap_setCell _ _ _ _ (h.y_v hj)) (fun x hx => ⟨(h.words x hx).1.setOther (a := ⟨y, k, none⟩) (h.y_x hx) _, (h.words x hx).2⟩) h.apart h.pv
  show (w.setCell ⟨y, k, none⟩ x).heap[y]? = _
  rw [here_set h.here, e]
/-- A store into an array's words. -/
theorem Play.word (h : Play B w0 w P s b W y half v bg un L q V c) {i : Nat} {x : Rec} (hx : L[i]? = some x) (j : Nat) (z : Int) :
    Play B w0 (w.setCell ⟨x.blk, j, none⟩ (.int .i64 z)) P s b W y half v bg un (L.set i { x with F := upd x.F j z }) q V c := by
  have hxm : x ∈ L := List.mem_of_getElem? hx
  have hil : i < L.length := (List.getElem?_eq_some_iff.1 hx).1
  have hcell : cellsR (L.set i { x with F := upd x.F j z }) = cellsR L := by
    have aux : ∀ (M : List Rec) (i : Nat), M[i]? = some x → cellsR (M.set i { x with F := upd x.F j z }) = cellsR M := by
      intro M
      induction M with
      | nil => intro i h; simp at h
      | cons a M ih =>
        intro i h
        cases i with
        | zero => simp at h; subst h; rfl
        | succ i => simp only [List.set_cons_succ, cellsR]; rw [ih i (by simpa using h)]
    exact aux L i hx
  refine h.remake (r := fun k => k = x.blk) (by simp [World.setCell]) ⟨rfl, rfl, rfl⟩ (fun k _ hk => Below.heap_setCell _ _ _ _ hk) (fun k hk => hk ▸ (h.words x hxm).2) ?_ ?_ (fun a ha => ?_) ?_ h.pv
  · show (w.setCell ⟨x.blk, j, none⟩ (.int .i64 z)).heap[y]? = _
    rw [Below.heap_setCell _ _ _ _ (fun r => h.y_x hxm r.symm)]; exact h.here
  · unfold Recs
    rw [hcell, List.length_set]
    exact h.row.of_block fun k hk => Below.heap_setCell _ _ _ _ (h.v_x hxm hk)
  · obtain ⟨m, hm, e⟩ := List.getElem_of_mem ha
    have hm' : m < L.length := by simpa using hm
    by_cases e2 : i = m
    · subst e2
      simp only [List.getElem_set_self] at e
      subst e
      refine ⟨((h.words x hxm).1.set j (.int .i64 z)).congr fun t _ => ?_, (h.words x hxm).2⟩
      show (if t = j then _ else _) = Value.int .i64 (upd x.F j z t)
      unfold upd; split <;> rfl
    · rw [List.getElem_set_ne e2] at e
      subst e
      have hne : L[m].blk ≠ x.blk := by
        have hxe : L[i] = x := by rw [List.getElem?_eq_getElem hil] at hx; exact Option.some.inj hx
        rw [← hxe]
        rcases Nat.lt_or_gt_of_ne e2 with r | r
        · exact fun q => List.pairwise_iff_getElem.1 h.apart i m hil hm' r q.symm
        · exact List.pairwise_iff_getElem.1 h.apart m i hm' hil r
      exact ⟨(h.words _ (List.getElem_mem hm')).1.setOther (a := ⟨x.blk, j, none⟩) hne _, (h.words _ (List.getElem_mem hm')).2⟩
  · have : (L.set i { x with F := upd x.F j z }).map (fun a => a.blk) = L.map (fun a => a.blk) := by
      have aux : ∀ (M : List Rec) (i : Nat), M[i]? = some x → (M.set i { x with F := upd x.F j z }).map (fun a => a.blk) = M.map (fun a => a.blk) := by
        intro M
        induction M with
        | nil => intro i h; simp at h
        | cons a M ih =>
          intro i h
          cases i with
          | zero => simp at h; subst h; rfl
          | succ i => simp only [List.set_cons_succ, List.map_cons]; rw [ih i (by simpa using h)]
      exact aux L i hx
    have h0 := h.apart
    rw [← List.pairwise_map (f := fun a : Rec => a.blk) (R := fun a b => a ≠ b)] at h0 ⊢
    rw [this]; exact h0
end
end Go.Proofs.Ytjfjgfkfbbigbaa
