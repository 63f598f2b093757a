/-
  Lists of bytes that came in of a bulk: they weigh no more than eight times that.
-/
import Derived.Test.YtimijfibfjlkjaaFrameLaw
import Derived.Test.YtimijfibfjlkjaaRows
namespace Go.Proofs.Ytimijfibfjlkjaa.frame
open Go.ChangeShapes Go.WideShapes Go.ChangeAt Go.RowKit Go.Deep Go.Joins
open Go.Proofs.Ytimijfibfjlkjaa.bytes
set_option linter.unusedVariables false
set_option maxRecDepth 100000
set_option linter.unusedSimpArgs false

/-- each value counts one at the least -/
theorem bulk_one {H : Type} (d : DataW H) : 1 ≤ Rows.uptoBulk d := by
  cases d with
  | lit l => cases l <;> simp [Rows.uptoBulk]
  | _ => simp [Rows.uptoBulk]
theorem bulk_len {H : Type} (D : Nat → DataW H) : ∀ l : List Nat, l.length ≤ Rows.uptoBulkAll (l.map D)
  | [] => by simp
  | x :: l => by
    have h1 := bulk_one (D x)
    have h2 := bulk_len D l
    simp only [List.map_cons, List.length_cons, Rows.uptoBulkAll]; omega
theorem wt_bulk {H : Type} (f : Nat → Lr) (D : Nat → DataW H) : ∀ l : List Nat, (∀ i ∈ l, (f i).l.length ≤ Rows.uptoBulk (D i)) → wt (l.map f) ≤ 8 * Rows.uptoBulkAll (l.map D)
  | [], _ => by simp [wt]
  | x :: l, h => by
    have h1 := h x (by simp)
    have h2 := wt_bulk f D l fun i hi => h i (by simp [hi])
    have h3 := bulk_one (D x)
    have e : wt ((x :: l).map f) = ((f x).l.length + 7) + wt (l.map f) := by simp [wt]
    rw [e]
    simp only [List.map_cons, Rows.uptoBulkAll]; omega

section
variable {H : Type} {enc : TypeId × Value → H} {W : World} {base : Nat} {spare : Nat → Bool} {held : Bool}

theorem sl_len {t e : TypeId} {n len cap : Nat} {a : Option Addr} {y : DataW H × List MemPlace} (ht : Try.prog.underlying t = some (.slice e)) (h : DataW.trod enc Try.prog W base spare held n t [.slice a len cap] = some y) : len ≤ Rows.uptoBulk y.1 := by
  rcases open_slice ht h with ⟨hcs, _⟩ | ⟨a', len', cap', m, n', D, Pl, hcs, _, _, _, _, hx, _⟩
  · simp at hcs
    obtain ⟨rfl, rfl, rfl⟩ := hcs
    omega
  · simp at hcs
    obtain ⟨rfl, rfl, rfl⟩ := hcs
    rw [hx]
    have h := bulk_len D (List.range len)
    rw [List.length_range] at h
    simp only [Rows.uptoBulk]
    omega
set_option maxRecDepth 100000 in
theorem lists_openB {fuel : Nat} {a : Option Addr} {len cap : Nat} {x : DataW H × List MemPlace}
    (h : DataW.trod enc Try.prog W base spare held fuel 28 [.slice a len cap] = some x) : ∃ ls : List Lr, ListsIn W a ls ∧ ls.length = len ∧ len ≤ cap ∧ cap ≤ maxLen ∧ (∀ i, i < ls.length → (ln ls i).l.length ≤ (ln ls i).cap) ∧ wt ls ≤ 8 * Rows.uptoBulk x.1 := by
  have n1 : Try.prog.cellsOf 22 = 1 := by kernel_rfl
  rcases open_slice Try.underlying28 h with ⟨h0, _⟩ | ⟨a', len', cap', m, n, D, Pl, hcs, hb, hl, hm, hmm, hxx, hx⟩
  · simp at h0
    obtain ⟨rfl, rfl, rfl⟩ := h0
    exact ⟨[], .inl rfl, rfl, Nat.le_refl _, Nat.zero_le _, fun i hi => (by simp at hi), by simp [wt]⟩
  · simp at hcs
    obtain ⟨rfl, rfl, rfl⟩ := hcs
    by_cases hz : len = 0
    · subst hz; exact ⟨[], .inl rfl, rfl, hl, hm, fun i hi => (by simp at hi), by simp [wt]⟩
    · have hlm : len ≤ m := by rw [hmm]; split <;> omega
      have each : ∀ i, i < len → ∃ d : Lr, W.cell? (a'.add i) = some (.slice d.a d.l.length d.cap) ∧ ByIn W d.a d.l ∧ d.l.length ≤ d.cap ∧ d.l.length ≤ Rows.uptoBulk (D i) := by
        intro i hi
        obtain ⟨cs', h1, h2⟩ := hx i (by omega)
        rw [n1] at h1
        obtain ⟨_, hlen, hget⟩ := World.cells?_some h1
        match cs', hlen with
        | [c0], _ =>
          have hsl : ∃ a len cap, c0 = .slice a len cap := by
            rcases open_ints Try.underlying22 Try.underlying5 (by kernel_rfl) h2 with ⟨hcs, _⟩ | ⟨y, l, c, zs, hcs, _⟩
            · simp only [List.cons.injEq, and_true] at hcs; exact ⟨_, _, _, hcs⟩
            · simp only [List.cons.injEq, and_true] at hcs; exact ⟨_, _, _, hcs⟩
          obtain ⟨ka, kl, kc, rfl⟩ := hsl
          obtain ⟨l, hN⟩ := nums_open Try.underlying22 Try.underlying5 (by kernel_rfl) h2
          have hB := bytes_of_nums hN
          have hL := sl_len Try.underlying22 h2
          have hkl := hB.len
          refine ⟨⟨ka, kc, bytesOf l⟩, ?_, hB.mem, by rw [hkl]; exact hB.cap, by rw [hkl]; exact hL⟩
          have := hget 0 (by omega)
          rw [hkl]
          simpa [Addr.add] using this
      obtain ⟨d0, hc0, _⟩ := each 0 (by omega)
      obtain ⟨b, off, spot⟩ := a'
      have hspot : spot = none := by
        have := World.cell?_spot hc0
        simpa [Addr.add] using this
      subst hspot
      obtain ⟨f, hf⟩ : ∃ f : Nat → Lr, ∀ i, i < len → W.cell? ((⟨b, off, none⟩ : Addr).add i) = some (.slice (f i).a (f i).l.length (f i).cap) ∧ ByIn W (f i).a (f i).l ∧ (f i).l.length ≤ (f i).cap ∧ (f i).l.length ≤ Rows.uptoBulk (D i) := by
        refine ⟨fun i => if h : i < len then Classical.choose (each i h) else ⟨none, 0, []⟩, fun i hi => ?_⟩
        simp only [hi, dif_pos]
        exact Classical.choose_spec (each i hi)
      have hT := wt_bulk f D (List.range len) fun i hi => (hf i (by simpa using hi)).2.2.2
      have hk : ∀ i, i < len → ln ((List.range len).map f) i = f i := fun i hi => by simp [ln, hi]
      refine ⟨(List.range len).map f, .inr ⟨b, off, rfl, fun i hi => ?_⟩, by simp, hl, hm, fun i hi => ?_, by rw [hxx]; simp only [Rows.uptoBulk]; omega⟩
      · simp only [List.length_map, List.length_range] at hi
        have := hf i hi
        rw [addr_add] at this
        rw [hk i hi]; exact ⟨this.1, this.2.1⟩
      · simp only [List.length_map, List.length_range] at hi
        rw [hk i hi]; exact (hf i hi).2.2.1
end
end Go.Proofs.Ytimijfibfjlkjaa.frame
