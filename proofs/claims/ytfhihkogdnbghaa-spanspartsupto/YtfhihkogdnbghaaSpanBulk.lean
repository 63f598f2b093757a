/-
  Facts that came in of a bulk: they weigh no more than that.
-/
import Derived.Test.YtfhihkogdnbghaaSpanPartsWalk
import Derived.Test.YtfhihkogdnbghaaSpanOpen
import Derived.Test.YtfhihkogdnbghaaRows
namespace Go.Proofs.Ytfhihkogdnbghaa.spans
open Go.ChangeShapes Go.WideShapes Go.ChangeAt Go.RowKit Go.Deep Go.Joins
open Go.Proofs.Ytfhihkogdnbghaa.bytes (ret_bool hid nth addr_add cell_lt own_below own_mono Nums nums_open)
set_option linter.unusedVariables false
set_option maxRecDepth 100000
set_option linter.unusedSimpArgs false

/-- each value counts one at the least -/
theorem bulk_one {H : Type} (d : DataW H) : 1 ≤ Rows.uptoBulk d := by
  cases d with
  | lit l => cases l <;> simp [Rows.uptoBulk]
  | _ => simp [Rows.uptoBulk]
theorem bulk_len {H : Type} (D : Nat → DataW H) : ∀ l : List Nat, l.length ≤ Rows.uptoBulkAll (l.map D)
  | [] => by simp
  | x :: l => by
    have h1 := bulk_one (D x)
    have h2 := bulk_len D l
    simp only [List.map_cons, List.length_cons, Rows.uptoBulkAll]; omega
theorem tot_le {α H : Type} (wt : α → Int) (tot : List α → Int) (hnil : tot [] = 0) (hcons : ∀ x l, tot (x :: l) = wt x + tot l) (f : Nat → α) (D : Nat → DataW H) :
    ∀ l : List Nat, (∀ i ∈ l, wt (f i) ≤ (Rows.uptoBulk (D i) : Int)) → tot (l.map f) ≤ (Rows.uptoBulkAll (l.map D) : Int)
  | [], _ => by simp only [List.map_nil, hnil]; omega
  | x :: l, h => by
    have h1 := h x (by simp)
    have h2 := tot_le wt tot hnil hcons f D l fun i hi => h i (by simp [hi])
    simp only [List.map_cons, hcons, Rows.uptoBulkAll]; omega

section
variable {H : Type} {enc : TypeId × Value → H} {W : World} {base : Nat} {spare : Nat → Bool} {held : Bool}

theorem sl_len {t e : TypeId} {n len cap : Nat} {a : Option Addr} {y : DataW H × List MemPlace} (ht : Try.prog.underlying t = some (.slice e)) (h : DataW.trod enc Try.prog W base spare held n t [.slice a len cap] = some y) : len ≤ Rows.uptoBulk y.1 := by
  rcases open_slice ht h with ⟨hcs, _⟩ | ⟨a', len', cap', m, n', D, Pl, hcs, _, _, _, _, hx, _⟩
  · simp at hcs
    obtain ⟨rfl, rfl, rfl⟩ := hcs
    omega
  · simp at hcs
    obtain ⟨rfl, rfl, rfl⟩ := hcs
    rw [hx]
    have h := bulk_len D (List.range len)
    rw [List.length_range] at h
    simp only [Rows.uptoBulk]
    omega

set_option maxRecDepth 100000 in
theorem two_openB {α : Type} [Inhabited α] (wt : α → Int) (tot : List α → Int) (hnil : tot [] = 0) (hcons : ∀ x l, tot (x :: l) = wt x + tot l) {t e : TypeId} {f0 f1 : Field} {fuel : Nat} {a : Option Addr} {len cap : Nat} {x : DataW H × List MemPlace} (Q : Value → Value → α → Prop)
    (ht : Try.prog.underlying t = some (.slice e)) (hs : Try.prog.underlying e = some (.struct #[f0, f1])) (o0 : f0.offset = 0) (o1 : f1.offset = 1) (n0 : Try.prog.cellsOf f0.type = 1) (n1 : Try.prog.cellsOf f1.type = 1) (n2 : Try.prog.cellsOf e = 2)
    (hQ : ∀ n c0 c1 y0 y1, DataW.trod enc Try.prog W base spare held n f0.type [c0] = some y0 → DataW.trod enc Try.prog W base spare held n f1.type [c1] = some y1 → ∃ z : α, Q c0 c1 z ∧ wt z ≤ (Rows.uptoBulk y0.1 : Int) + (Rows.uptoBulk y1.1 : Int))
    (h : DataW.trod enc Try.prog W base spare held fuel t [.slice a len cap] = some x) : ∃ xs : List α, xs.length = len ∧ len ≤ cap ∧ cap ≤ maxLen ∧ (xs = [] ∨ ∃ b off, a = some ⟨b, off, none⟩ ∧ ∀ i, i < xs.length → ∃ c0 c1, W.cell? ⟨b, off + i * 2, none⟩ = some c0 ∧ W.cell? ⟨b, off + i * 2 + 1, none⟩ = some c1 ∧ Q c0 c1 (xs.getD i default)) ∧ tot xs ≤ (Rows.uptoBulk x.1 : Int) := by
  rcases open_slice ht h with ⟨h0, _⟩ | ⟨a', len', cap', m, n, D, Pl, hcs, hb, hl, hm, hmm, hxx, hx⟩
  · simp at h0
    obtain ⟨rfl, rfl, rfl⟩ := h0
    exact ⟨[], rfl, Nat.le_refl _, Nat.zero_le _, .inl rfl, by rw [hnil]; omega⟩
  · simp at hcs
    obtain ⟨rfl, rfl, rfl⟩ := hcs
    by_cases hz : len = 0
    · subst hz; exact ⟨[], rfl, hl, hm, .inl rfl, by rw [hnil]; omega⟩
    · have hlm : len ≤ m := by rw [hmm]; split <;> omega
      have each : ∀ i, i < len → ∃ (z : α) (c0 c1 : Value), W.cell? (a'.add (i * 2)) = some c0 ∧ W.cell? ((a'.add (i * 2)).add 1) = some c1 ∧ Q c0 c1 z ∧ wt z ≤ (Rows.uptoBulk (D i) : Int) := by
        intro i hi
        obtain ⟨cs', h1, h2⟩ := hx i (by omega)
        rw [n2] at h1
        obtain ⟨_, hlen, hget⟩ := World.cells?_some h1
        obtain ⟨y0, y1, n', ex, _, g0, g1⟩ := trod_struct2 hs h2
        have eD : D i = .agg [y0.1, y1.1] := congrArg Prod.fst ex
        match cs', hlen with
        | [c0, c1], _ =>
          rw [o0, n0] at g0
          rw [o1, n1] at g1
          obtain ⟨z, hz, hzw⟩ := hQ _ _ _ _ _ (by simpa using g0) (by simpa using g1)
          refine ⟨z, c0, c1, ?_, ?_, hz, by rw [eD]; simp only [Rows.uptoBulk, Rows.uptoBulkAll]; omega⟩
          · have := hget 0 (by omega)
            simpa [Addr.add] using this
          · exact hget 1 (by omega)
      obtain ⟨d0, _, _, hc0, _⟩ := each 0 (by omega)
      obtain ⟨b, off, spot⟩ := a'
      have hspot : spot = none := by
        have := World.cell?_spot hc0
        simpa [Addr.add] using this
      subst hspot
      obtain ⟨f, hf⟩ : ∃ f : Nat → α, ∀ i, i < len → ∃ (c0 c1 : Value), W.cell? ((⟨b, off, none⟩ : Addr).add (i * 2)) = some c0 ∧ W.cell? (((⟨b, off, none⟩ : Addr).add (i * 2)).add 1) = some c1 ∧ Q c0 c1 (f i) ∧ wt (f i) ≤ (Rows.uptoBulk (D i) : Int) := by
        refine ⟨fun i => if h : i < len then Classical.choose (each i h) else default, fun i hi => ?_⟩
        simp only [hi, dif_pos]
        exact Classical.choose_spec (each i hi)
      have hT := tot_le wt tot hnil hcons f D (List.range len) fun i hi => by
        obtain ⟨c0, c1, _, _, _, h4⟩ := hf i (by simpa using hi)
        exact h4
      refine ⟨(List.range len).map f, by simp, hl, hm, .inr ⟨b, off, rfl, fun i hi => ?_⟩, by rw [hxx]; simp only [Rows.uptoBulk]; omega⟩
      simp only [List.length_map, List.length_range] at hi
      have hn : ((List.range len).map f).getD i default = f i := by simp [hi]
      obtain ⟨c0, c1, h1, h2, h3, _⟩ := hf i hi
      rw [addr_add, addr_add] at h2
      rw [addr_add] at h1
      rw [hn]; exact ⟨c0, c1, h1, h2, h3⟩

theorem ints_cellB {n : Nat} {c : Value} {y : DataW H × List MemPlace} (h : DataW.trod enc Try.prog W base spare held n 31 [c] = some y) : ∃ a cap l, c = .slice a l.length cap ∧ Ints W a l ∧ l.length ≤ cap ∧ l.length ≤ Rows.uptoBulk y.1 := by
  obtain ⟨a, len, cap, rfl⟩ := sl_form Try.underlying31 h
  obtain ⟨l, hl⟩ := nums_open Try.underlying31 Try.underlying3 (by kernel_rfl) h
  obtain rfl := hl.eln
  exact ⟨a, cap, l, rfl, hl.mem, hl.lec, sl_len Try.underlying31 h⟩
theorem tw_mem : ∀ (fs : List Ft) (f : Ft), f ∈ fs → f.k.length ≤ tw fs
  | g :: r, f, hf => by
    rcases List.mem_cons.1 hf with rfl | hf
    · simp only [tw]; omega
    · have := tw_mem r f hf
      simp only [tw]; omega
theorem facts_openB {fuel : Nat} {a : Option Addr} {len cap : Nat} {x : DataW H × List MemPlace} (h : DataW.trod enc Try.prog W base spare held fuel 46 [.slice a len cap] = some x) : ∃ fs, (Rows.uptoBulk x.1 ≤ 17592186044416 → FactsIn W a fs) ∧ fs.length = len ∧ len ≤ cap ∧ cap ≤ maxLen ∧ tw fs ≤ Rows.uptoBulk x.1 := by
  letI : Inhabited Ft := ⟨⟨none, 0, [], 0⟩⟩
  obtain ⟨xs, hx1, hx2, hx3, hx4, hx5⟩ := two_openB (fun f : Ft => (f.k.length : Int) + 1) (fun fs => (tw fs : Int)) rfl (fun f r => by simp only [tw]; omega) (α := Ft) (fun c0 c1 f => c0 = .slice f.a f.k.length f.cap ∧ c1 = .int .i64 f.v ∧ Ints W f.a f.k ∧ f.k.length ≤ f.cap) Try.underlying46 Try.underlying56 rfl rfl (by kernel_rfl) (by kernel_rfl) (by kernel_rfl) (fun n c0 c1 y0 y1 g0 g1 => by
    obtain ⟨ka, kc, kl, e0, h1, h2, h4⟩ := ints_cellB g0
    obtain ⟨v, e1, _, hw⟩ := DataW.trod_int Try.underlying2 g1
    simp only [List.cons.injEq, and_true] at e1
    exact ⟨⟨ka, kc, kl, v⟩, ⟨e0, e1, h1, h2⟩, by have := bulk_one y1.1; show (kl.length : Int) + 1 ≤ _; omega⟩) h
  have hx6 : tw xs ≤ Rows.uptoBulk x.1 := by omega
  refine ⟨xs, fun hb => ?_, hx1, hx2, hx3, hx6⟩
  rcases hx4 with h0 | ⟨b, off, ha, hc⟩
  · exact .inl h0
  · refine .inr ⟨b, off, ha, fun i hi => ?_⟩
    obtain ⟨c0, c1, h1, h2, h3, h4, h5, h6⟩ := hc i hi
    have e : xs.getD i default = ftn xs i := by simp [ftn, hi]
    rw [e] at h3 h4 h5 h6
    have h7 := tw_mem xs _ (ftn_mem hi)
    exact ⟨by rw [h1, h3], by rw [h2, h4], h5, by omega, h6⟩
end
end Go.Proofs.Ytfhihkogdnbghaa.spans
