/- impl.TrieOk: its contract is 'implTrieOk_any'. -/
import Derived.Test.YtcggenpianpoiaaDoorILinked
