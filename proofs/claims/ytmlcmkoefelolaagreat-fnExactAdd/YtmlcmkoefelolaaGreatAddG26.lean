/-
  Plain facts: a name's text, label by label. No program is named here. Plain facts: a name comes back from its text, great letters being as small ones. No program is named here. Plain facts: a row of slices put behind another one; a name with one label more ahead. No program is named here. Plain facts: what the law of the order of names asks for. No program is named here.
-/
import Derived.Test.YtmlcmkoefelolaaGreatAddG00
import Derived.Test.YtmlcmkoefelolaaGreatAddG25
import Derived.Test.YtmlcmkoefelolaaGreatAddG04
import Derived.Test.YtmlcmkoefelolaaGreatAddG05
import Derived.Test.YtmlcmkoefelolaaGreatAddG01
import Derived.Test.YtmlcmkoefelolaaGreatAddG14
namespace Go.Proofs.YtmlcmkoefelolaaGreat
open Go.RowKit

end Go.Proofs.YtmlcmkoefelolaaGreat

namespace Go.Proofs.YtmlcmkoefelolaaGreat
open Go.RowKit

end Go.Proofs.YtmlcmkoefelolaaGreat

namespace Go.Proofs.YtmlcmkoefelolaaGreat
open Go.RowKit

section
variable {P : Program} {w : World}
end

end Go.Proofs.YtmlcmkoefelolaaGreat

namespace Go.Proofs.YtmlcmkoefelolaaGreat
open Go.RowKit

theorem cmpL_cases : ∀ (a b : List (List Int)), cmpL a b = -1 ∨ cmpL a b = 0 ∨ cmpL a b = 1
 | [], [] => .inr (.inl rfl)
 | [], _ :: _ => .inl rfl
 | _ :: _, [] => .inr (.inr rfl)
 | x :: a, y :: b => by
  unfold cmpL
  split
  ·exact cmpB_cases x y
  ·exact cmpL_cases a b
theorem cmpN_cases (a b : List (List Int)) : cmpN a b = -1 ∨ cmpN a b = 0 ∨ cmpN a b = 1 := by
 rw [cmpN_eq]
 exact cmpL_cases _ _
end Go.Proofs.YtmlcmkoefelolaaGreat
